/- exec's step at any instruction that may be. -/
import Derived.Test.YtilaalleiiakoaaDoorE1
import Derived.Test.YtilaalleiiakoaaDoorE3
import Derived.Test.YtilaalleiiakoaaDoorE5
import Derived.Test.YtilaalleiiakoaaDoorF0
import Derived.Deep.RegionWith
import Derived.Deep.DeepCutAuto
namespace Go.Proofs.YtilaalleiiakoaaDoor
open Go.RowKit

theorem step_any (x : I4) (places : Nat) (pc : Int) (r : R4) (w : World) (hm : May x places) (hp : 0 ≤ pc ∧ pc < 1000000) :
    Calls Tryd.prog 63 #[insV x, .int .i64 pc, regV r] w (StepG (stepP x pc r) w) := by
  obtain ⟨op, a, b, n⟩ := x
  obtain ⟨⟨o1, o2⟩, ⟨a1, a2⟩, ⟨b1, b2⟩, hn, -⟩ := hm
  dsimp only at o1 o2 a1 a2 b1 b2 hn
  have ho : op = 1 ∨ op = 2 ∨ op = 3 ∨ op = 4 ∨ op = 5 ∨ op = 6 ∨ op = 7 ∨ op = 8 ∨ op = 9 ∨ op = 10 ∨ op = 11 ∨ op = 12 ∨ op = 13 ∨ op = 14 := by omega
  have ha : a = 0 ∨ a = 1 ∨ a = 2 ∨ a = 3 := by omega
  have hb : b = 0 ∨ b = 1 ∨ b = 2 ∨ b = 3 := by omega
  clear o1 o2 a1 a2 b1 b2
  rcases ho with rfl | rfl | rfl | rfl | rfl | rfl | rfl | rfl | rfl | rfl | rfl | rfl | rfl | rfl
  · rcases ha with rfl | rfl | rfl | rfl
    · exact step_1_0 b n pc r w hp hn
    · exact step_1_1 b n pc r w hp hn
    · exact step_1_2 b n pc r w hp hn
    · exact step_1_3 b n pc r w hp hn
  · rcases ha with rfl | rfl | rfl | rfl
    · rcases hb with rfl | rfl | rfl | rfl
      · exact step_2_0_0 n pc r w hp hn
      · exact step_2_0_1 n pc r w hp hn
      · exact step_2_0_2 n pc r w hp hn
      · exact step_2_0_3 n pc r w hp hn
    · rcases hb with rfl | rfl | rfl | rfl
      · exact step_2_1_0 n pc r w hp hn
      · exact step_2_1_1 n pc r w hp hn
      · exact step_2_1_2 n pc r w hp hn
      · exact step_2_1_3 n pc r w hp hn
    · rcases hb with rfl | rfl | rfl | rfl
      · exact step_2_2_0 n pc r w hp hn
      · exact step_2_2_1 n pc r w hp hn
      · exact step_2_2_2 n pc r w hp hn
      · exact step_2_2_3 n pc r w hp hn
    · rcases hb with rfl | rfl | rfl | rfl
      · exact step_2_3_0 n pc r w hp hn
      · exact step_2_3_1 n pc r w hp hn
      · exact step_2_3_2 n pc r w hp hn
      · exact step_2_3_3 n pc r w hp hn
  · rcases ha with rfl | rfl | rfl | rfl
    · rcases hb with rfl | rfl | rfl | rfl
      · exact step_3_0_0 n pc r w hp hn
      · exact step_3_0_1 n pc r w hp hn
      · exact step_3_0_2 n pc r w hp hn
      · exact step_3_0_3 n pc r w hp hn
    · rcases hb with rfl | rfl | rfl | rfl
      · exact step_3_1_0 n pc r w hp hn
      · exact step_3_1_1 n pc r w hp hn
      · exact step_3_1_2 n pc r w hp hn
      · exact step_3_1_3 n pc r w hp hn
    · rcases hb with rfl | rfl | rfl | rfl
      · exact step_3_2_0 n pc r w hp hn
      · exact step_3_2_1 n pc r w hp hn
      · exact step_3_2_2 n pc r w hp hn
      · exact step_3_2_3 n pc r w hp hn
    · rcases hb with rfl | rfl | rfl | rfl
      · exact step_3_3_0 n pc r w hp hn
      · exact step_3_3_1 n pc r w hp hn
      · exact step_3_3_2 n pc r w hp hn
      · exact step_3_3_3 n pc r w hp hn
  · rcases ha with rfl | rfl | rfl | rfl
    · exact step_4_0 b n pc r w hp hn
    · exact step_4_1 b n pc r w hp hn
    · exact step_4_2 b n pc r w hp hn
    · exact step_4_3 b n pc r w hp hn
  · rcases ha with rfl | rfl | rfl | rfl
    · by_cases h0 : r.get 0 = 0
      · exact step_5_0_z b n pc r w hp hn h0
      · exact step_5_0_n b n pc r w hp hn h0
    · by_cases h0 : r.get 1 = 0
      · exact step_5_1_z b n pc r w hp hn h0
      · exact step_5_1_n b n pc r w hp hn h0
    · by_cases h0 : r.get 2 = 0
      · exact step_5_2_z b n pc r w hp hn h0
      · exact step_5_2_n b n pc r w hp hn h0
    · by_cases h0 : r.get 3 = 0
      · exact step_5_3_z b n pc r w hp hn h0
      · exact step_5_3_n b n pc r w hp hn h0
  · rcases ha with rfl | rfl | rfl | rfl
    · exact step_6_0 b n pc r w hp hn
    · exact step_6_1 b n pc r w hp hn
    · exact step_6_2 b n pc r w hp hn
    · exact step_6_3 b n pc r w hp hn
  · rcases ha with rfl | rfl | rfl | rfl
    · exact step_7_0 b n pc r w hp hn
    · exact step_7_1 b n pc r w hp hn
    · exact step_7_2 b n pc r w hp hn
    · exact step_7_3 b n pc r w hp hn
  · rcases ha with rfl | rfl | rfl | rfl
    · exact step_8_0 b n pc r w hp hn
    · exact step_8_1 b n pc r w hp hn
    · exact step_8_2 b n pc r w hp hn
    · exact step_8_3 b n pc r w hp hn
  · rcases ha with rfl | rfl | rfl | rfl
    · exact step_9_0 b n pc r w hp hn
    · exact step_9_1 b n pc r w hp hn
    · exact step_9_2 b n pc r w hp hn
    · exact step_9_3 b n pc r w hp hn
  · rcases ha with rfl | rfl | rfl | rfl
    · exact step_10_0 b n pc r w hp hn
    · exact step_10_1 b n pc r w hp hn
    · exact step_10_2 b n pc r w hp hn
    · exact step_10_3 b n pc r w hp hn
  · rcases ha with rfl | rfl | rfl | rfl
    · exact step_11_0 b n pc r w hp hn
    · exact step_11_1 b n pc r w hp hn
    · exact step_11_2 b n pc r w hp hn
    · exact step_11_3 b n pc r w hp hn
  · rcases ha with rfl | rfl | rfl | rfl
    · exact step_12_0 b n pc r w hp hn
    · exact step_12_1 b n pc r w hp hn
    · exact step_12_2 b n pc r w hp hn
    · exact step_12_3 b n pc r w hp hn
  · rcases ha with rfl | rfl | rfl | rfl
    · exact step_13_0 b n pc r w hp hn
    · exact step_13_1 b n pc r w hp hn
    · exact step_13_2 b n pc r w hp hn
    · exact step_13_3 b n pc r w hp hn
  · rcases ha with rfl | rfl | rfl | rfl
    · exact step_14_0 b n pc r w hp hn
    · exact step_14_1 b n pc r w hp hn
    · exact step_14_2 b n pc r w hp hn
    · exact step_14_3 b n pc r w hp hn


set_option maxHeartbeats 1000000 in
theorem may_any (prio : Int) (A : Option Addr) (l : List I4) (cap : Nat) (w : World) (hT : Tabs w) (hI : InsIn w A l) :
    Calls Tryd.prog 62 #[.agg #[.int .i64 prio, .slice A l.length cap]] w (GotB w.heap.size (.bool (decide ((progE prio l).1 = 0))) w) := by
  have hb : Below w.heap.size w (w.alloc (.cells #[.int .i64 prio, .slice A l.length cap] 53)) := (Below.refl _ _).alloc (Nat.le_refl _) _
  have HC := Lib.hid (check_any prio A l cap _ (hT.on hb) (hI.below hb))
  have HB := Lib.hid hb
  obtain ⟨e1, he1⟩ : ∃ e, (progE prio l).1 = e := ⟨_, rfl⟩
  obtain ⟨e2, he2⟩ : ∃ e, (progE prio l).2 = e := ⟨_, rfl⟩
  unfold CheckP at HC
  rw [he1, he2] at HC
  rw [he1]
  clear hb he1 he2 hT hI
  generalize l.length = n at *
  obtain ⟨q, hq⟩ : ∃ q, decide (e1 = 0) = q := ⟨_, rfl⟩
  have t : (e1 == 0) = q := by rw [← hq]; rfl
  rw [hq]
  clear hq
  go_enter Tryd.func62, Tryd.ntmps62
  go_wp2_with (go_at_call 64; (with_reducible refine HC.out.mono ?_); rintro e w2 ⟨rfl, h2⟩; have H2 := Lib.hid h2; clear h2)
  go_ret
  exact ⟨rfl, HB.out.trans (H2.out.mono HB.out.size)⟩


theorem Four.drewN {w W : World} {prio : Int} {A : Option Addr} {n cap : Nat} {r : R4} (h : Four w W prio A n cap r) (k : Nat) : Four w (W.drewN k) prio A n cap r := h.on ⟨rfl, rfl, rfl, Nat.le_refl _, fun _ _ => rfl⟩
theorem Four.drew {w W : World} {prio : Int} {A : Option Addr} {n cap : Nat} {r : R4} (h : Four w W prio A n cap r) : Four w W.drew prio A n cap r := h.on ⟨rfl, rfl, rfl, Nat.le_refl _, fun _ _ => rfl⟩
set_option maxRecDepth 100000 in
set_option maxHeartbeats 4000000 in
theorem Step_in (prio : Int) (A : Option Addr) (l : List I4) (cap k : Nat) (x : I4) (r : R4) (w : World) (hT : Tabs w) (hI : InsIn w A l) (hx : l[k]? = some x) (hf : Fine prio l) :
    Calls Tryd.prog 60 #[.agg #[.int .i64 prio, .slice A l.length cap], .int .i64 k, regV r] w (StepG (stepP x k r) w) := by
  have hm := hf.may hx (hI k x hx).1.n
  have kl : k < l.length := (List.getElem?_eq_some_iff.1 hx).1
  have kl64 : l.length ≤ 64 := hf.len.2
  have HST : Hid (∀ W, Calls Tryd.prog 63 #[insV x, .int .i64 k, regV r] W (StepG (stepP x k r) W)) := fun W => step_any x l.length k r W hm (by omega)
  have hF := Four.new w prio A l.length cap r
  have HM := Lib.hid (may_any prio A l cap _ (hT.on hF.below) (hI.below hF.below))
  rw [hf.ok] at HM
  rw [show decide ((0 : Int) = 0) = true from rfl] at HM
  have HF := Lib.hid hF; have HI := Lib.hid hI; have HX := Lib.hid hx
  obtain ⟨p0, p1, q0, q1, q2, q3, -⟩ := hF.cells
  have t0 : decide ((k : Int) < 0) = false := by simp
  have t1 : decide (l.length ≤ k) = false := by simp; omega
  clear hF hI hx hf hm hT
  generalize l.length = N at *
  obtain ⟨G, hG⟩ : ∃ G, stepP x k r = G := ⟨_, rfl⟩
  rw [hG] at HST ⊢
  clear hG
  obtain ⟨gp, ⟨g0, g1, g2, g3⟩, ⟨go, gr, gn⟩⟩ := G
  obtain ⟨op, xa, xb, xn⟩ := x
  obtain ⟨ra, rb, rc, rd⟩ := r
  dsimp only at q0 q1 q2 q3
  go_enter Tryd.func60, Tryd.ntmps60
  go_upto_region 2 with (go_at_call 62; (with_reducible refine HM.out.mono ?_); rintro e w2 ⟨rfl, h2⟩; have HF2 := Lib.hid (HF.out.on h2); clear h2 p0 p1 q0 q1 q2 q3)
  clear HF HM
  have HF3 := Lib.hid HF2.out.drew
  have c' : InsIn w2.drew A l := HI.out.below HF3.out.below
  obtain ⟨ft, bb, off, rfl, -, c0, c1, c2, c3⟩ := c' k _ HX.out
  obtain ⟨p0, p1, q0, q1, q2, q3, -⟩ := HF3.out.cells
  have k0 : (0 : Int) ≤ (k : Int) := by omega
  have k1 : (k : Int) < (N : Int) := by omega
  dsimp only at c0 c1 c2 c3 q0 q1 q2 q3
  clear ft c' t0 t1
  go_region_with (go_at_call 63; (with_reducible refine (HST.out _).mono ?_); rintro e w4 ⟨rfl, h4⟩; have HF4 := Lib.hid (HF3.out.on h4); clear h4; obtain ⟨-, -, -, -, -, -, z0, z1, z2, z3, f0, f1, f2, hlt⟩ := HF4.out.cells; obtain ⟨uq, uz, uf⟩ := HF4.out.frees)
  all_goals go_wp2
  all_goals refine bodyPost_ret (v := .tuple #[.int .i64 gp, .agg #[.int .i32 g0, .int .i32 g1, .int .i32 g2, .int .i32 g3], .agg #[.int .i64 go, .int .i64 gr, .int .i32 gn]]) (by simp [results, Tryd.results60, go_sem, *]) rfl ⟨rfl, ?_⟩
  all_goals
    refine HF4.out.below.trans (But.below (X := fun k => w.heap.size ≤ k) ?_ HF4.out.below.size fun _ _ q => q)
    repeat' first
      | with_reducible exact But.refl _ _
      | with_reducible refine But.set ?_ _ _ (.inl ?_)
      | with_reducible refine But.drewN ?_ _
      | with_reducible refine But.drew ?_
      | with_reducible refine But.alloc ?_ _
    all_goals (dsimp only; omega)


set_option maxRecDepth 100000 in
set_option maxHeartbeats 4000000 in
theorem Step_low (prio : Int) (A : Option Addr) (l : List I4) (cap : Nat) (pc : Int) (r : R4) (w : World) (hT : Tabs w) (h : pc < 0) :
    Calls Tryd.prog 60 #[.agg #[.int .i64 prio, .slice A l.length cap], .int .i64 pc, regV r] w (StepG ⟨pc, r, Eff.refused⟩ w) := by
  have hF := Four.new w prio A l.length cap r
  have HT2 := Lib.hid (hT.on hF.below)
  have HF := Lib.hid hF
  have t0 : decide (pc < 0) = true := by simpa using h
  clear hF hT
  generalize l.length = N at *
  obtain ⟨ra, rb, rc, rd⟩ := r
  obtain ⟨p0, p1, q0, q1, q2, q3, -⟩ := HF.out.cells
  dsimp only at HF q0 q1 q2 q3 HT2
  go_enter Tryd.func60, Tryd.ntmps60
  go_upto_region 2 with fail
  clear p0 p1 q0 q1 q2 q3
  generalize ((((w.alloc (.cells #[.int .i64 prio, .slice A N cap] 53)).alloc (.cells #[.int .i32 ra, .int .i32 rb, .int .i32 rc, .int .i32 rd] 43)).alloc (.cells #[.int .i32 0, .int .i32 0, .int .i32 0, .int .i32 0] 43)).alloc (.cells #[.int .i64 0, .int .i64 0, .int .i32 0] 61)) = w2 at *
  have HF2 := HF
  have HF3 := Lib.hid HF2.out
  obtain ⟨p0, p1, q0, q1, q2, q3, z0, z1, z2, z3, f0, f1, f2, hlt⟩ := HF3.out.cells
  obtain ⟨uq, uz, uf⟩ := HF3.out.frees
  dsimp only at q0 q1 q2 q3
  have r0 := HT2.out.r0; have r1 := HT2.out.r1; have r2 := HT2.out.r2; have rs := HT2.out.size.2
  go_region
  all_goals go_wp2
  all_goals refine bodyPost_ret (v := .tuple #[.int .i64 pc, .agg #[.int .i32 ra, .int .i32 rb, .int .i32 rc, .int .i32 rd], .agg #[.int .i64 14, .int .i64 0, .int .i32 (-1)]]) (by simp [results, Tryd.results60, go_sem, *]) rfl ⟨rfl, ?_⟩
  all_goals
    refine HF3.out.below.trans (But.below (X := fun k => w.heap.size ≤ k) ?_ HF3.out.below.size fun _ _ q => q)
    repeat' first
      | with_reducible exact But.refl _ _
      | with_reducible refine But.set ?_ _ _ (.inl ?_)
      | with_reducible refine But.drewN ?_ _
      | with_reducible refine But.drew ?_
      | with_reducible refine But.alloc ?_ _
    all_goals (dsimp only; omega)
set_option maxRecDepth 100000 in
set_option maxHeartbeats 4000000 in
theorem Step_high (prio : Int) (A : Option Addr) (l : List I4) (cap : Nat) (pc : Int) (r : R4) (w : World) (hT : Tabs w) (h0 : 0 ≤ pc) (h : (l.length : Int) ≤ pc) :
    Calls Tryd.prog 60 #[.agg #[.int .i64 prio, .slice A l.length cap], .int .i64 pc, regV r] w (StepG ⟨pc, r, Eff.refused⟩ w) := by
  have hF := Four.new w prio A l.length cap r
  have HT2 := Lib.hid (hT.on hF.below)
  have HF := Lib.hid hF
  have t0 : decide (pc < 0) = false := by simp; omega
  have t1 : decide ((l.length : Int) ≤ pc) = true := by simpa using h
  clear hF hT
  generalize l.length = N at *
  obtain ⟨ra, rb, rc, rd⟩ := r
  obtain ⟨p0, p1, q0, q1, q2, q3, -⟩ := HF.out.cells
  dsimp only at HF q0 q1 q2 q3 HT2
  go_enter Tryd.func60, Tryd.ntmps60
  go_upto_region 2 with fail
  clear p0 p1 q0 q1 q2 q3
  generalize ((((w.alloc (.cells #[.int .i64 prio, .slice A N cap] 53)).alloc (.cells #[.int .i32 ra, .int .i32 rb, .int .i32 rc, .int .i32 rd] 43)).alloc (.cells #[.int .i32 0, .int .i32 0, .int .i32 0, .int .i32 0] 43)).alloc (.cells #[.int .i64 0, .int .i64 0, .int .i32 0] 61)) = w2 at *
  have HF2 := HF
  have HF3 := Lib.hid HF2.out
  obtain ⟨p0, p1, q0, q1, q2, q3, z0, z1, z2, z3, f0, f1, f2, hlt⟩ := HF3.out.cells
  obtain ⟨uq, uz, uf⟩ := HF3.out.frees
  dsimp only at q0 q1 q2 q3
  have r0 := HT2.out.r0; have r1 := HT2.out.r1; have r2 := HT2.out.r2; have rs := HT2.out.size.2
  go_region
  all_goals go_wp2
  all_goals refine bodyPost_ret (v := .tuple #[.int .i64 pc, .agg #[.int .i32 ra, .int .i32 rb, .int .i32 rc, .int .i32 rd], .agg #[.int .i64 14, .int .i64 0, .int .i32 (-1)]]) (by simp [results, Tryd.results60, go_sem, *]) rfl ⟨rfl, ?_⟩
  all_goals
    refine HF3.out.below.trans (But.below (X := fun k => w.heap.size ≤ k) ?_ HF3.out.below.size fun _ _ q => q)
    repeat' first
      | with_reducible exact But.refl _ _
      | with_reducible refine But.set ?_ _ _ (.inl ?_)
      | with_reducible refine But.drewN ?_ _
      | with_reducible refine But.drew ?_
      | with_reducible refine But.alloc ?_ _
    all_goals (dsimp only; omega)
set_option maxRecDepth 100000 in
set_option maxHeartbeats 4000000 in
theorem Step_not (prio : Int) (A : Option Addr) (l : List I4) (cap : Nat) (pc : Int) (r : R4) (w : World) (hT : Tabs w) (hI : InsIn w A l) (h0 : 0 ≤ pc) (h : pc < l.length) (he : (progE prio l).1 ≠ 0) :
    Calls Tryd.prog 60 #[.agg #[.int .i64 prio, .slice A l.length cap], .int .i64 pc, regV r] w (StepG ⟨pc, r, Eff.refused⟩ w) := by
  have hF := Four.new w prio A l.length cap r
  have HT2 := Lib.hid (hT.on hF.below)
  have HM := Lib.hid (may_any prio A l cap _ (hT.on hF.below) (hI.below hF.below))
  rw [show decide ((progE prio l).1 = 0) = false by simpa using he] at HM
  have HF := Lib.hid hF
  have t0 : decide (pc < 0) = false := by simp; omega
  have t1 : decide ((l.length : Int) ≤ pc) = false := by simp; omega
  clear hF hT hI he
  generalize l.length = N at *
  obtain ⟨ra, rb, rc, rd⟩ := r
  obtain ⟨p0, p1, q0, q1, q2, q3, -⟩ := HF.out.cells
  dsimp only at HF q0 q1 q2 q3 HM HT2
  go_enter Tryd.func60, Tryd.ntmps60
  go_upto_region 2 with (go_at_call 62; (with_reducible refine HM.out.mono ?_); rintro e w2 ⟨rfl, h2⟩; have HF2 := Lib.hid (HF.out.on h2); have HT3 := Lib.hid (HT2.out.on h2); clear h2 p0 p1 q0 q1 q2 q3)
  have HT2 := HT3
  have HF3 := Lib.hid HF2.out
  obtain ⟨p0, p1, q0, q1, q2, q3, z0, z1, z2, z3, f0, f1, f2, hlt⟩ := HF3.out.cells
  obtain ⟨uq, uz, uf⟩ := HF3.out.frees
  dsimp only at q0 q1 q2 q3
  have r0 := HT2.out.r0; have r1 := HT2.out.r1; have r2 := HT2.out.r2; have rs := HT2.out.size.2
  go_region
  all_goals go_wp2
  all_goals refine bodyPost_ret (v := .tuple #[.int .i64 pc, .agg #[.int .i32 ra, .int .i32 rb, .int .i32 rc, .int .i32 rd], .agg #[.int .i64 14, .int .i64 0, .int .i32 (-1)]]) (by simp [results, Tryd.results60, go_sem, *]) rfl ⟨rfl, ?_⟩
  all_goals
    refine HF3.out.below.trans (But.below (X := fun k => w.heap.size ≤ k) ?_ HF3.out.below.size fun _ _ q => q)
    repeat' first
      | with_reducible exact But.refl _ _
      | with_reducible refine But.set ?_ _ _ (.inl ?_)
      | with_reducible refine But.drewN ?_ _
      | with_reducible refine But.drew ?_
      | with_reducible refine But.alloc ?_ _
    all_goals (dsimp only; omega)
set_option maxRecDepth 100000 in
set_option maxHeartbeats 4000000 in
theorem refStep_not (prio : Int) (A : Option Addr) (l : List I4) (cap : Nat) (pc : Int) (r : R4) (w : World) (hI : InsIn w A l) (he : (progE prio l).1 ≠ 0) :
    Calls Tryd.prog 21 #[.agg #[.int .i64 prio, .slice A l.length cap], .int .i64 pc, regV r] w (StepG ⟨pc, r, Eff.refused⟩ w) := by
  have hF := Four.new w prio A l.length cap r
  have HC := refCheck_any prio A l cap _ (hI.below hF.below)
  obtain ⟨e1, he1⟩ : ∃ e, (progE prio l).1 = e := ⟨_, rfl⟩
  obtain ⟨e2, he2⟩ : ∃ e, (progE prio l).2 = e := ⟨_, rfl⟩
  unfold CheckP at HC
  rw [he1, he2] at HC
  rw [he1] at he
  have HC := Lib.hid HC
  have HF := Lib.hid hF
  have t0 : (e1 != 0) = true := by simpa using he
  clear he
  clear hF hI he1 he2
  generalize l.length = N at *
  obtain ⟨ra, rb, rc, rd⟩ := r
  obtain ⟨p0, p1, q0, q1, q2, q3, -⟩ := HF.out.cells
  dsimp only at HF q0 q1 q2 q3 HC
  go_enter Tryd.func21, Tryd.ntmps21
  go_wp2_with fail
  refine HC.out.mono ?_
  rintro e w2 ⟨rfl, h2⟩
  have HF2 := Lib.hid (HF.out.on h2)
  clear h2 p0 p1 q0 q1 q2 q3 HC HF
  obtain ⟨p0, p1, -⟩ := HF2.out.cells
  go_upto_region 3 with fail
  clear p0 p1
  have HF3 := Lib.hid HF2.out
  obtain ⟨p0, p1, q0, q1, q2, q3, z0, z1, z2, z3, f0, f1, f2, hlt⟩ := HF3.out.cells
  obtain ⟨uq, uz, uf⟩ := HF3.out.frees
  dsimp only at q0 q1 q2 q3
  go_region
  all_goals go_wp2
  all_goals refine bodyPost_ret (v := .tuple #[.int .i64 pc, .agg #[.int .i32 ra, .int .i32 rb, .int .i32 rc, .int .i32 rd], .agg #[.int .i64 14, .int .i64 0, .int .i32 (-1)]]) (by simp [results, Tryd.results21, go_sem, *]) rfl ⟨rfl, ?_⟩
  all_goals
    refine HF3.out.below.trans (But.below (X := fun k => w.heap.size ≤ k) ?_ HF3.out.below.size fun _ _ q => q)
    repeat' first
      | with_reducible exact But.refl _ _
      | with_reducible refine But.set ?_ _ _ (.inl ?_)
      | with_reducible refine But.drewN ?_ _
      | with_reducible refine But.drew ?_
      | with_reducible refine But.alloc ?_ _
    all_goals (dsimp only; omega)
set_option maxRecDepth 100000 in
set_option maxHeartbeats 4000000 in
theorem refStep_low (prio : Int) (A : Option Addr) (l : List I4) (cap : Nat) (pc : Int) (r : R4) (w : World) (hI : InsIn w A l) (he : (progE prio l).1 = 0) (h : pc < 0) :
    Calls Tryd.prog 21 #[.agg #[.int .i64 prio, .slice A l.length cap], .int .i64 pc, regV r] w (StepG ⟨pc, r, Eff.refused⟩ w) := by
  have hF := Four.new w prio A l.length cap r
  have HC := refCheck_any prio A l cap _ (hI.below hF.below)
  obtain ⟨e1, he1⟩ : ∃ e, (progE prio l).1 = e := ⟨_, rfl⟩
  obtain ⟨e2, he2⟩ : ∃ e, (progE prio l).2 = e := ⟨_, rfl⟩
  unfold CheckP at HC
  rw [he1, he2] at HC
  rw [he1] at he
  have HC := Lib.hid HC
  have HF := Lib.hid hF
  subst he
  have t0 : decide (pc < 0) = true := by simpa using h
  clear hF hI he1 he2
  generalize l.length = N at *
  obtain ⟨ra, rb, rc, rd⟩ := r
  obtain ⟨p0, p1, q0, q1, q2, q3, -⟩ := HF.out.cells
  dsimp only at HF q0 q1 q2 q3 HC
  go_enter Tryd.func21, Tryd.ntmps21
  go_wp2_with fail
  refine HC.out.mono ?_
  rintro e w2 ⟨rfl, h2⟩
  have HF2 := Lib.hid (HF.out.on h2)
  clear h2 p0 p1 q0 q1 q2 q3 HC HF
  obtain ⟨p0, p1, -⟩ := HF2.out.cells
  go_upto_region 3 with fail
  clear p0 p1
  have HF3 := Lib.hid HF2.out
  obtain ⟨p0, p1, q0, q1, q2, q3, z0, z1, z2, z3, f0, f1, f2, hlt⟩ := HF3.out.cells
  obtain ⟨uq, uz, uf⟩ := HF3.out.frees
  dsimp only at q0 q1 q2 q3
  go_region
  all_goals go_wp2
  all_goals refine bodyPost_ret (v := .tuple #[.int .i64 pc, .agg #[.int .i32 ra, .int .i32 rb, .int .i32 rc, .int .i32 rd], .agg #[.int .i64 14, .int .i64 0, .int .i32 (-1)]]) (by simp [results, Tryd.results21, go_sem, *]) rfl ⟨rfl, ?_⟩
  all_goals
    refine HF3.out.below.trans (But.below (X := fun k => w.heap.size ≤ k) ?_ HF3.out.below.size fun _ _ q => q)
    repeat' first
      | with_reducible exact But.refl _ _
      | with_reducible refine But.set ?_ _ _ (.inl ?_)
      | with_reducible refine But.drewN ?_ _
      | with_reducible refine But.drew ?_
      | with_reducible refine But.alloc ?_ _
    all_goals (dsimp only; omega)
set_option maxRecDepth 100000 in
set_option maxHeartbeats 4000000 in
theorem refStep_high (prio : Int) (A : Option Addr) (l : List I4) (cap : Nat) (pc : Int) (r : R4) (w : World) (hI : InsIn w A l) (he : (progE prio l).1 = 0) (h0 : 0 ≤ pc) (h : (l.length : Int) ≤ pc) :
    Calls Tryd.prog 21 #[.agg #[.int .i64 prio, .slice A l.length cap], .int .i64 pc, regV r] w (StepG ⟨pc, r, Eff.refused⟩ w) := by
  have hF := Four.new w prio A l.length cap r
  have HC := refCheck_any prio A l cap _ (hI.below hF.below)
  obtain ⟨e1, he1⟩ : ∃ e, (progE prio l).1 = e := ⟨_, rfl⟩
  obtain ⟨e2, he2⟩ : ∃ e, (progE prio l).2 = e := ⟨_, rfl⟩
  unfold CheckP at HC
  rw [he1, he2] at HC
  rw [he1] at he
  have HC := Lib.hid HC
  have HF := Lib.hid hF
  subst he
  have t0 : decide (pc < 0) = false := by simp; omega
  have t1 : decide ((l.length : Int) ≤ pc) = true := by simpa using h
  clear hF hI he1 he2
  generalize l.length = N at *
  obtain ⟨ra, rb, rc, rd⟩ := r
  obtain ⟨p0, p1, q0, q1, q2, q3, -⟩ := HF.out.cells
  dsimp only at HF q0 q1 q2 q3 HC
  go_enter Tryd.func21, Tryd.ntmps21
  go_wp2_with fail
  refine HC.out.mono ?_
  rintro e w2 ⟨rfl, h2⟩
  have HF2 := Lib.hid (HF.out.on h2)
  clear h2 p0 p1 q0 q1 q2 q3 HC HF
  obtain ⟨p0, p1, -⟩ := HF2.out.cells
  go_upto_region 3 with fail
  clear p0 p1
  have HF3 := Lib.hid HF2.out
  obtain ⟨p0, p1, q0, q1, q2, q3, z0, z1, z2, z3, f0, f1, f2, hlt⟩ := HF3.out.cells
  obtain ⟨uq, uz, uf⟩ := HF3.out.frees
  dsimp only at q0 q1 q2 q3
  go_region
  all_goals go_wp2
  all_goals refine bodyPost_ret (v := .tuple #[.int .i64 pc, .agg #[.int .i32 ra, .int .i32 rb, .int .i32 rc, .int .i32 rd], .agg #[.int .i64 14, .int .i64 0, .int .i32 (-1)]]) (by simp [results, Tryd.results21, go_sem, *]) rfl ⟨rfl, ?_⟩
  all_goals
    refine HF3.out.below.trans (But.below (X := fun k => w.heap.size ≤ k) ?_ HF3.out.below.size fun _ _ q => q)
    repeat' first
      | with_reducible exact But.refl _ _
      | with_reducible refine But.set ?_ _ _ (.inl ?_)
      | with_reducible refine But.drewN ?_ _
      | with_reducible refine But.drew ?_
      | with_reducible refine But.alloc ?_ _
    all_goals (dsimp only; omega)

/-- exec's Step, whatever it is given. -/
theorem Step_any (prio : Int) (A : Option Addr) (l : List I4) (cap : Nat) (pc : Int) (r : R4) (w : World) (hT : Tabs w) (hI : InsIn w A l) :
    Calls Tryd.prog 60 #[.agg #[.int .i64 prio, .slice A l.length cap], .int .i64 pc, regV r] w (StepG (stepF prio l pc r) w) := by
  by_cases h0 : pc < 0
  · rw [stepF_low h0]; exact Step_low prio A l cap pc r w hT h0
  · by_cases h1 : (l.length : Int) ≤ pc
    · rw [stepF_high h1]; exact Step_high prio A l cap pc r w hT (by omega) h1
    · by_cases he : (progE prio l).1 = 0
      · obtain ⟨k, rfl⟩ := Int.eq_ofNat_of_zero_le (show 0 ≤ pc by omega)
        have hx : l[k]? = some (l[k]'(by omega)) := List.getElem?_eq_getElem (by omega)
        rw [stepF_in he hx]
        exact Step_in prio A l cap k _ r w hT hI hx (fine_of he)
      · rw [stepF_bad he]; exact Step_not prio A l cap pc r w hT hI (by omega) (by omega) he
end Go.Proofs.YtilaalleiiakoaaDoor
