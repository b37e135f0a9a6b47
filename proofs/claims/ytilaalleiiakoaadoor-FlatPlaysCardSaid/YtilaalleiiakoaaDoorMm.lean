/- The document's Next, whatever happens to a machine that is right (layer 19). -/
import Derived.Test.YtilaalleiiakoaaDoorMh
import Derived.Test.YtilaalleiiakoaaDoorMi
import Derived.Test.YtilaalleiiakoaaDoorMj
import Derived.Test.YtilaalleiiakoaaDoorMk
import Derived.Test.YtilaalleiiakoaaDoorMp
import Derived.Test.YtilaalleiiakoaaDoorMq
import Derived.Test.YtilaalleiiakoaaDoorMr
import Derived.Test.YtilaalleiiakoaaDoorLh
import Derived.Test.YtilaalleiiakoaaDoorMn
import Derived.Test.YtilaalleiiakoaaDoorLd
namespace Go.Proofs.YtilaalleiiakoaaDoor
open Go.RowKit

section
variable {w : World} {B : Nat} {F O : Value} {f : Fl} {PA : Option Addr} {ps : List PR}
set_option maxRecDepth 100000 in
set_option maxHeartbeats 4000000 in
/-- What happens to no task. -/
theorem nx_others (h : InF w F O f.ts f.ow) (hl : f.ts.length ≤ 1000) (pcap : Nat) (ht : In64F f.tm) (kd tk cpu a b : Int) (ha : In64F a) (hk : 14 ≤ kd ∧ kd ≤ 20) :
  Calls Tryd.prog 10 #[flV F O f.p f.tm, .slice PA ps.length pcap, evV ⟨kd, tk, cpu, a, b⟩] w (NxtG w F O f (turnP f ps ⟨kd, tk, cpu, a, b⟩)) := by
 have HOT : Hid (∀ X, Below w.heap.size w X → Calls Tryd.prog 19 #[.agg (flL F O f.p f.tm).toArray, .agg #[.int .i64 kd, .int .i64 tk, .int .i64 cpu, .int .i64 a, .int .i64 b]] X (NxtG X F O f (turnP f ps ⟨kd, tk, cpu, a, b⟩))) := fun X hX => by
  have hx := h.below hX
  have hc : kd = 14 ∨ kd = 15 ∨ kd = 16 ∨ kd = 17 ∨ kd = 18 ∨ kd = 19 ∨ kd = 20 := by omega
  rcases hc with rfl | rfl | rfl | rfl | rfl | rfl | rfl
  ·
   exact oth_14 hx tk cpu a b
  ·
   exact oth_15 hx tk cpu a b hl
  ·
   exact oth_16 hx tk cpu a b ht ha
  ·
   exact oth_17 hx tk cpu a b
  ·
   exact oth_18 hx tk cpu a b
  ·
   exact oth_19 hx tk cpu a b
  ·
   exact oth_20 hx tk cpu a b
 have hfr := FrU.new w F O f.p f.tm ⟨kd, tk, cpu, a, b⟩ #[.slice none 0 0, .int .u64 0, .int .u64 0, .int .u64 0, .int .u64 0, .int .u64 0, .int .u64 0, .int .u64 0, .int .u64 0, .int .u64 0, .int .u64 0, .int .u64 0, .int .u64 0, .int .u64 0, .int .u64 0, .int .u64 0, .int .u64 0, .slice none 0 0, .int .i64 0] rfl
 have HH := Lib.hid h
 obtain ⟨R, hR⟩ : ∃ R, turnP f ps ⟨kd, tk, cpu, a, b⟩ = R := ⟨_, rfl⟩
 rw [hR] at HOT ⊢
 have v14 : decide (14 ≤ kd) = true := decide_eq_true hk.1
 have v20 : decide (kd ≤ 20) = true := decide_eq_true hk.2
 clear h hR hk ht ha hl
 dsimp only at hfr
 go_enter Tryd.func10, Tryd.ntmps10
 go_upto_region 1 with fail
 generalize ((w.alloc (.cells (flL F O f.p f.tm).toArray 30)).alloc (.cells #[.int .i64 kd, .int .i64 tk, .int .i64 cpu, .int .i64 a, .int .i64 b] 36)).alloc (.cells #[.slice none 0 0, .int .u64 0, .int .u64 0, .int .u64 0, .int .u64 0, .int .u64 0, .int .u64 0, .int .u64 0, .int .u64 0, .int .u64 0, .int .u64 0, .int .u64 0, .int .u64 0, .int .u64 0, .int .u64 0, .int .u64 0, .int .u64 0, .slice none 0 0, .int .i64 0] 30) = W at *
 have HFR := Lib.hid hfr
 obtain ⟨e0, e1, e2, e3, e4⟩ := hfr.ev
 dsimp only at e0 e1 e2 e3 e4
 have HBF := Lib.hid hfr.bf
 obtain ⟨old, hbr, hold⟩ := hfr.br
 have HBR := Lib.hid hbr; have HOL := Lib.hid hold
 have HOW := Lib.hid (HOT.out W hfr.bl)
 clear hfr hbr hold
 go_wp2_with (first
  | (with_reducible (show wpList _ _ _ _ _ _); refine ld_flat rfl (.tmp 3) rfl w.heap.size rfl HBF.out ?_)
  | (go_at_call 19; (with_reducible refine HOW.out.mono ?_); rintro e w7 ⟨F7, O7, rfl, h7, hX7, hC7, hb7⟩; have HB7 := Lib.hid hb7; have HC7 := Lib.hid hC7; have H7 := Lib.hid h7; have HX7 := Lib.hid hX7; have HBR7 := Lib.hid (HBR.out.below hb7 HBR.out.lt); have oF7 := h7.one.1; have oO7 := h7.one.2; clear h7 hb7 hX7 hC7)
  | (with_reducible (show wpList _ _ _ _ _ _); refine st_flat rfl (.tmp 6) (.tmp 26) rfl (w.heap.size + 1 + 1) rfl rfl oF7 oO7 old HBR7.out HOL.out ?_))
 refine ret_flat2 rfl (w.heap.size + 1 + 1) rfl (BF.row HBR7.out) rfl ?_
 have hlt := HBR.out.lt
 have hB : But (fun k => k = w.heap.size + 1 + 1) w7 (w7.setRow (w.heap.size + 1 + 1) (flL F7 O7 (R.getD f).p (R.getD f).tm).toArray) := (But.refl _ _).row _ _ (.inl rfl)
 refine ⟨F7, O7, rfl, H7.out.but hB fun k hk z => ?_, fun k hk => ?_, HC7.out, ?_⟩
 ·
  subst z
  rcases HX7.out _ hk with z | z
  ·
   omega
  ·
   have := HH.out.lt z; omega
 ·
  rcases HX7.out k hk with z | z
  ·
   exact .inl (Nat.le_trans HFR.out.bl.size z)
  ·
   exact .inr z
 ·
  exact (((But.of_below (X := fun k => w.heap.size ≤ k) (HFR.out.bl.trans (HB7.out.mono HFR.out.bl.size))).row _ _ (.inl (by show w.heap.size ≤ w.heap.size + 1 + 1; omega))).below (Nat.le_refl _) fun k _ z => z)
theorem turnP_task {i : Nat} {x : FT} (hx : f.ts[i]? = some x) {kd cpu a b : Int} (hk : kd ≠ 1 ∧ kd ≠ 9 ∧ kd ≠ 10 ∧ (kd < 14 ∨ 20 < kd)) :
  turnP f ps ⟨kd, i, cpu, a, b⟩ = (taskP f ps ⟨kd, i, cpu, a, b⟩ x).map fun y => { f with ts := f.ts.set i y } := by
 have hil := (List.getElem?_eq_some_iff.1 hx).1
 obtain ⟨h1, h2, h3, h4⟩ := hk
 unfold turnP
 dsimp only
 rw [if_neg (by omega), if_neg (by omega), if_neg (by omega), if_neg (by omega), if_neg (by omega), if_neg (by omega), if_neg (by omega), if_pos (show isT f (i : Int) from ⟨by omega, by omega⟩), show ((i : Int)).toNat = i by omega, hx]
 rfl
theorem turnP_out {tk kd cpu a b : Int} (ht : tk < 0 ∨ (f.ts.length : Int) ≤ tk) (hk : kd ≠ 1 ∧ (kd < 14 ∨ 20 < kd)) : turnP f ps ⟨kd, tk, cpu, a, b⟩ = none := by
 have hn : ¬ isT f tk := fun z => by have := z.1; have := z.2; omega
 obtain ⟨h1, h2⟩ := hk
 unfold turnP
 dsimp only
 rw [if_neg (by omega), if_neg (by omega), if_neg (by omega), if_neg (by omega), if_neg (by omega), if_neg hn, if_neg hn, if_neg hn]
 split
 ·
  rfl
 ·
  split <;> rfl
/-- THE DOCUMENT'S NEXT. -/
theorem nexts_any (h : InF w F O f.ts f.ow) (hl : f.ts.length ≤ 1000) (hm : f.ow.length ≤ 1000) (pcap : Nat) (hG : Gnd w B PA ps) (hr : RightF f) (hro : ∀ x ∈ f.ts, x.r.Ok) (ht : In64F f.tm) (e : EvP) (he : e.Ok) :
  Calls Tryd.prog 10 #[flV F O f.p f.tm, .slice PA ps.length pcap, evV e] w (NxtG w F O f (turnP f ps e)) := by
 obtain ⟨kd, tk, cpu, a, b⟩ := e
 by_cases h14 : 14 ≤ kd ∧ kd ≤ 20
 ·
  exact nx_others h hl pcap ht kd tk cpu a b he.a h14
 by_cases h1 : kd = 1
 ·
  subst h1
  by_cases hk : tk = (f.ts.length : Int) ∧ 0 ≤ a ∧ a < (ps.length : Int)
  ·
   rw [show turnP f ps ⟨1, tk, cpu, a, b⟩ = some { f with ts := f.ts ++ [FT.new a] } by unfold turnP; dsimp only; rw [if_neg (by omega), if_pos rfl, if_pos hk]]
   exact nx_1yes h hl pcap tk cpu a b hk
  ·
   rw [show turnP f ps ⟨1, tk, cpu, a, b⟩ = none by unfold turnP; dsimp only; rw [if_neg (by omega), if_pos rfl, if_neg hk]]
   exact nx_1no h hl pcap tk cpu a b hk
 by_cases hto : tk < 0 ∨ (f.ts.length : Int) ≤ tk
 ·
  rw [turnP_out hto ⟨h1, by omega⟩]
  by_cases hlo : kd < 14
  ·
   exact nx_out_lo h hl pcap kd tk cpu a b ⟨hlo, h1⟩ hto
  ·
   exact nx_out_hi h hl pcap kd tk cpu a b (by omega) hto
 obtain ⟨i, rfl⟩ := Int.eq_ofNat_of_zero_le (show 0 ≤ tk by omega)
 have hil : i < f.ts.length := by omega
 obtain ⟨x, hx⟩ : ∃ x, f.ts[i]? = some x := ⟨_, List.getElem?_eq_getElem hil⟩
 have hs := (hr.st i x hx).1
 have hxo := hro x (List.mem_of_getElem? hx)
 have hT : isT f (i : Int) := ⟨by omega, by omega⟩
 by_cases h9 : kd = 9
 ·
  subst h9
  rw [show turnP f ps ⟨9, i, cpu, a, b⟩ = (passP f.ow a (-1) i).map fun o => { f with ow := o } by unfold turnP; dsimp only; rw [if_neg (by omega), if_neg (by omega), if_neg (by omega), if_neg (by omega), if_neg (by omega), if_pos rfl, if_pos hT]]
  exact nx_9 h hl hm hx pcap cpu a b
 by_cases h10 : kd = 10
 ·
  subst h10
  rw [show turnP f ps ⟨10, i, cpu, a, b⟩ = (passP f.ow a i (-1)).map fun o => { f with ow := o } by unfold turnP; dsimp only; rw [if_neg (by omega), if_neg (by omega), if_neg (by omega), if_neg (by omega), if_neg (by omega), if_neg (by omega), if_pos rfl, if_pos hT]]
  exact nx_10 h hl hm hx pcap cpu a b
 rw [turnP_task hx ⟨h1, h9, h10, by omega⟩]
 by_cases q2 : kd = 2
 ·
  subst q2; exact nx_2 h hl hm hx pcap cpu a b
 by_cases q3 : kd = 3
 ·
  subst q3; exact nx_3 h hl hm hx pcap cpu a b hG hxo
 by_cases q4 : kd = 4
 ·
  subst q4; exact nx_4 h hl hm hx pcap cpu a b
 by_cases q5 : kd = 5
 ·
  subst q5; exact nx_5 h hl hm hx pcap cpu a b hs
 by_cases q6 : kd = 6
 ·
  subst q6; exact nx_6 h hl hm hx pcap cpu a b hs
 by_cases q7 : kd = 7
 ·
  subst q7; exact nx_7 h hl hm hx pcap cpu a b hs
 by_cases q8 : kd = 8
 ·
  subst q8; exact nx_8 h hl hm hx pcap cpu a b
 by_cases q11 : kd = 11
 ·
  subst q11; exact nx_11 h hl hm hx pcap cpu a b
 by_cases q12 : kd = 12
 ·
  subst q12; exact nx_12 h hl hm hx pcap cpu a b
 by_cases q13 : kd = 13
 ·
  subst q13; exact nx_13 h hl hm hx pcap cpu a b
 by_cases q21 : kd = 21
 ·
  subst q21; exact nx_21 h hl hm hx pcap cpu a b
 by_cases hlo : kd < 14
 ·
  exact nx_lo h hl hm hx pcap kd cpu a b ⟨hlo, h1, q2, q3, q4, q5, q6, q7, q8, h9, h10, q11, q12, q13⟩
 ·
  exact nx_hi h hl hm hx pcap kd cpu a b ⟨by omega, q21⟩
end

set_option maxRecDepth 100000

theorem stepF_regs {prio : Int} {l : List I4} {pc : Int} {r : R4} (h : r.Ok) (hl : ∀ (k : Nat) x, l[k]? = some x → In32 x.n) : (stepF prio l pc r).r.Ok := by
 unfold stepF
 split
 ·
  split
  ·
   rename_i z hz; exact stepP_regs h (hl _ _ hz)
  ·
   exact h
 ·
  exact h
def InsOk (ps : List PR) : Prop := ∀ (k : Nat) q, ps[k]? = some q → ∀ (j : Nat) z, q.l[j]? = some z → In32 z.n
theorem taskP_regs {f : Fl} {ps : List PR} {e : EvP} {x y : FT} (h : taskP f ps e x = some y) (hx : x.r.Ok) (hp : InsOk ps) : y.r.Ok := by
 unfold taskP at h
 by_cases k2 : e.kd = 2
 ·
  rw [if_pos k2] at h
  split at h
  ·
   obtain rfl := Option.some.inj h; exact hx
  ·
   cases h
 rw [if_neg k2] at h
 by_cases k3 : e.kd = 3
 ·
  rw [if_pos k3] at h
  split at h
  ·
   unfold doP at h
   obtain ⟨q, hq, rfl⟩ := Option.map_eq_some_iff.1 h
   unfold insP at hq
   split at hq
   ·
    split at hq
    ·
     rename_i q' hq'
     split at hq
     ·
      obtain rfl := Option.some.inj hq
      exact stepF_regs hx (hp _ _ hq')
     ·
      cases hq
    ·
     cases hq
   ·
    cases hq
  ·
   cases h
 rw [if_neg k3] at h
 by_cases k4 : e.kd = 4
 ·
  rw [if_pos k4] at h
  split at h
  ·
   obtain rfl := Option.some.inj h; exact hx
  ·
   cases h
 rw [if_neg k4] at h
 by_cases k5 : e.kd = 5
 ·
  rw [if_pos k5] at h
  split at h
  ·
   obtain rfl := Option.some.inj h; exact hx
  ·
   cases h
 rw [if_neg k5] at h
 by_cases k6 : e.kd = 6
 ·
  rw [if_pos k6] at h
  split at h
  ·
   obtain rfl := Option.some.inj h; exact hx
  ·
   cases h
 rw [if_neg k6] at h
 by_cases k7 : e.kd = 7
 ·
  rw [if_pos k7] at h
  split at h
  ·
   obtain rfl := Option.some.inj h; exact hx
  ·
   cases h
 rw [if_neg k7] at h
 by_cases k8 : e.kd = 8
 ·
  rw [if_pos k8] at h
  split at h
  ·
   obtain rfl := Option.some.inj h; exact hx
  ·
   cases h
 rw [if_neg k8] at h
 by_cases k11 : e.kd = 11
 ·
  rw [if_pos k11] at h
  split at h
  ·
   obtain rfl := Option.some.inj h; exact hx
  ·
   cases h
 rw [if_neg k11] at h
 by_cases k13 : e.kd = 13
 ·
  rw [if_pos k13] at h
  split at h
  ·
   obtain rfl := Option.some.inj h; exact hx
  ·
   cases h
 rw [if_neg k13] at h
 by_cases k12 : e.kd = 12
 ·
  rw [if_pos k12] at h
  split at h
  ·
   obtain rfl := Option.some.inj h; exact hx
  ·
   cases h
 rw [if_neg k12] at h
 by_cases k21 : e.kd = 21
 ·
  rw [if_pos k21] at h
  split at h
  ·
   rename_i hc
   obtain rfl := Option.some.inj h
   exact hx.put _ hc.2.2.2
  ·
   cases h
 rw [if_neg k21] at h
 cases h
theorem new_regs {ts : List FT} {a : Int} (hr : ∀ x ∈ ts, x.r.Ok) : ∀ x ∈ ts ++ [FT.new a], x.r.Ok := fun x hx => by
 rcases List.mem_append.1 hx with z | z
 ·
  exact hr x z
 ·
  obtain rfl := List.mem_singleton.1 z
  exact ⟨⟨by show (-2147483648 : Int) ≤ 0; omega, by show (0 : Int) ≤ 2147483647; omega⟩, ⟨by show (-2147483648 : Int) ≤ 0; omega, by show (0 : Int) ≤ 2147483647; omega⟩, ⟨by show (-2147483648 : Int) ≤ 0; omega, by show (0 : Int) ≤ 2147483647; omega⟩, ⟨by show (-2147483648 : Int) ≤ 0; omega, by show (0 : Int) ≤ 2147483647; omega⟩⟩
theorem turnP_regs {f g : Fl} {ps : List PR} {e : EvP} (h : turnP f ps e = some g) (hr : ∀ x ∈ f.ts, x.r.Ok) (hp : InsOk ps) : ∀ x ∈ g.ts, x.r.Ok := by
 unfold turnP at h
 repeat' split at h
 all_goals first
  | (obtain rfl := Option.some.inj h; exact hr)
  | (obtain rfl := Option.some.inj h; exact new_regs hr)
  | cases h
  | skip
 ·
  obtain ⟨o, ho, rfl⟩ := Option.map_eq_some_iff.1 h
  exact hr
 ·
  obtain ⟨o, ho, rfl⟩ := Option.map_eq_some_iff.1 h
  exact hr
 ·
  obtain ⟨y, hy, rfl⟩ := Option.map_eq_some_iff.1 h
  obtain ⟨x, hx, hy⟩ := Option.bind_eq_some_iff.1 hy
  intro z hz
  rcases List.mem_or_eq_of_mem_set hz with z' | rfl
  ·
   exact hr z z'
  ·
   exact taskP_regs hy (hr x (List.mem_of_getElem? hx)) hp
theorem gnd_ins {w : World} {B : Nat} {PA : Option Addr} {ps : List PR} (hG : Gnd w B PA ps) : InsOk ps := fun k q hq j z hz => by
 obtain ⟨b, off, -, -, -, -, hI, -⟩ := hG.ps k q hq
 exact (hI j z hz).1.n
theorem EvIn.take {w : World} {A : Option Addr} {l : List EvP} (h : EvIn w A l) (k : Nat) : EvIn w A (l.take k) := fun i e he => h i e (by
 rw [List.getElem?_take] at he
 split at he
 ·
  exact he
 ·
  cases he)
def plF (p : Nat → Bool) : Fl := ⟨[], p, [-1, -1, -1], 0⟩
theorem plF_right (p : Nat → Bool) : RightF (plF p) where
 st i x h := by simp [plF] at h
 two i j x y _ h := by simp [plF] at h
 ow i t h := by
  unfold plF at h ⊢
  match i, h with
  | 0, h => simp at h; subst h; simp
  | 1, h => simp at h; subst h; simp
  | 2, h => simp at h; subst h; simp
  | i + 3, h => simp at h
 tm := Int.le_refl _
/-- Under way: what the document has come to. -/
structure PlW (w V : World) (b8 : Nat) (F O : Value) (g : Fl) (n k : Nat) : Prop where
 bf : BF V b8 F O g.p g.tm
 inn : InF V F O g.ts g.ow
 ne : ∀ j, OwnX F O g.ts g.ow j → j ≠ b8
 cap : CapF F g.ts.length
 right : RightF g
 regs : ∀ x ∈ g.ts, x.r.Ok
 len : g.ts.length ≤ k
 low : g.ow.length = 3
 tm : In64F g.tm
theorem PlW.on {w V W : World} {b8 : Nat} {F O : Value} {g : Fl} {n k : Nat} (h : PlW w V b8 F O g n k) (hb : Below V.heap.size V W) : PlW w W b8 F O g n k :=
 ⟨Blk.below h.bf hb (Blk.lt h.bf), h.inn.below hb, h.ne, h.cap, h.right, h.regs, h.len, h.low, h.tm⟩
theorem InF.sl {w : World} {F O : Value} {ts : List FT} {ow : List Int} (h : InF w F O ts ow) : (∃ A c, F = .slice A ts.length c) ∧ ∃ A c, O = .slice A ow.length c := by
 obtain ⟨⟨A, c, h1, -⟩, A2, c2, h2, -⟩ := h
 exact ⟨⟨A, c, h1⟩, A2, c2, h2⟩
section
variable {w : World} {B : Nat} {PA : Option Addr} {ps : List PR}
set_option maxHeartbeats 16000000 in
theorem plays_any (hG : Gnd w B PA ps) (p : Nat → Bool) (pcap : Nat) (EA : Option Addr) (evs : List EvP) (ecap : Nat) (hE : EvIn w EA evs) (hcap : evs.length ≤ ecap) :
  Calls Tryd.prog 3 #[.agg (cellsOf p), .slice PA ps.length pcap, .slice EA evs.length ecap] w (GotB w.heap.size (.bool true) w) := by
 have HG := Lib.hid hG
 obtain ⟨l, hl⟩ : ∃ l, evs.take 60 = l := ⟨_, rfl⟩
 have hEl : EvIn w EA l := by rw [← hl]; exact hE.take 60
 obtain ⟨m, hm⟩ : ∃ m, l.length = m := ⟨_, rfl⟩
 have hm60 : m ≤ 60 := by rw [← hm, ← hl, List.length_take]; omega
 have hmin : min (evs.length : Int) 60 = (m : Int) := by rw [← hm, ← hl, List.length_take]; omega
 have hmn : m ≤ evs.length := by rw [← hm, ← hl, List.length_take]; omega
 have HEL := Lib.hid hEl; have HM := Lib.hid hm
 obtain ⟨n, hnn⟩ : ∃ n, evs.length = n := ⟨_, rfl⟩
 rw [hnn] at hmn hmin hcap ⊢
 clear hG hE hEl hl hm hnn
 have i0 : (0 : Int) ≤ (m : Int) := by omega
 have i1 : (m : Int) ≤ (n : Int) := by omega
 have i2 : m ≤ ecap := by omega
 have i3 : (m : Int) ≤ (ecap : Int) := by omega
 have hbs : Blk (w.alloc (.cells (cellsOf p) 24)) w.heap.size 24 (cellsOf p) := Blk.new w _ _
 have hbl : Below w.heap.size w (w.alloc (.cells (cellsOf p) 24)) := (Below.refl _ _).alloc (Nat.le_refl _) _
 go_enter Tryd.func3, Tryd.ntmps3
 go_upto_region 2 with fail
 have hite : (if (60 : Int) < (n : Int) then (60 : Int) else (n : Int)) = (m : Int) := by rw [← hmin]; split <;> omega
 rw [hite, Int.toNat_natCast]
 clear hite
 generalize w.alloc (.cells (cellsOf p) 24) = W0 at *
 have HB0 := Lib.hid hbl; have HBS := Lib.hid hbs
 clear hbl hbs
 have HCS : Hid (∀ X, Blk X w.heap.size 24 (cellsOf p) → X.rangeAt w.heap.size 0 (cellsOf p).toList) := fun X hX j u hj => by
  rw [Nat.zero_add, hX.cell]; rw [Array.getElem?_toList] at hj; exact hj
 have HRS := Lib.hid (HCS.out W0 HBS.out)
 have HNW : Hid (∀ X, Calls Tryd.prog 6 #[.agg (cellsOf p), .int .i64 3] X (AneG X p 0 [] [-1, -1, -1])) := fun X => new_any p 3 (by omega) X
 go_upto_region 3 with (first
  | (with_reducible (show wpList _ _ _ _ _ _); refine wpList_load_mid rfl 24 (.tmp 3) rfl w.heap.size 0 rfl (cellsOf p).toList _ HRS.out underSet rfl (by rw [infoSetS]; simp [cellsOf]) ?_)
  | (go_at_call 6; (try rw [Array.toArray_toList]); (with_reducible refine (HNW.out _).mono ?_); rintro e w2 ⟨F, O, rfl, h2, hb2⟩; have HB2 := Lib.hid (HB0.out.trans (hb2.mono HB0.out.size)); have HBS2 := Lib.hid (HBS.out.below hb2 HBS.out.lt); have H2 := Lib.hid h2; obtain ⟨A0, k0, rfl, -⟩ := own_tsIn h2.tk; obtain ⟨A1, k1, rfl, -⟩ := own_numsIn h2.ow; clear h2 hb2)
  | (with_reducible (show wpList _ _ _ _ _ _); refine st_flat rfl (.tmp 7) (.tmp 22) rfl w2.heap.size rfl rfl rfl rfl _ (Blk.new w2 _ _) rfl ?_))
 have HBF : Hid (BF ((w2.alloc (.cells #[.slice none 0 0, .int .u64 0, .int .u64 0, .int .u64 0, .int .u64 0, .int .u64 0, .int .u64 0, .int .u64 0, .int .u64 0, .int .u64 0, .int .u64 0, .int .u64 0, .int .u64 0, .int .u64 0, .int .u64 0, .int .u64 0, .int .u64 0, .slice none 0 0, .int .i64 0] 30)).setRow w2.heap.size (flL (.slice A0 0 k0) (.slice A1 3 k1) p 0).toArray) w2.heap.size (.slice A0 0 k0) (.slice A1 3 k1) p 0) := BF.row (Blk.new w2 _ _)
 have HIN : Hid (InF ((w2.alloc (.cells #[.slice none 0 0, .int .u64 0, .int .u64 0, .int .u64 0, .int .u64 0, .int .u64 0, .int .u64 0, .int .u64 0, .int .u64 0, .int .u64 0, .int .u64 0, .int .u64 0, .int .u64 0, .int .u64 0, .int .u64 0, .int .u64 0, .int .u64 0, .slice none 0 0, .int .i64 0] 30)).setRow w2.heap.size (flL (.slice A0 0 k0) (.slice A1 3 k1) p 0).toArray) (.slice A0 0 k0) (.slice A1 3 k1) [] [-1, -1, -1] ∧ (∀ j, OwnX (.slice A0 0 k0) (.slice A1 3 k1) [] [-1, -1, -1] j → j < w2.heap.size)) := ⟨((H2.out.below ((Below.refl _ _).alloc (Nat.le_refl _) _)).row _ _ fun k hk => by have := (H2.out.lt hk).2; omega).inF, fun j hj => H2.out.inF.lt hj⟩
 have HBR : Hid (Below w2.heap.size w2 ((w2.alloc (.cells #[.slice none 0 0, .int .u64 0, .int .u64 0, .int .u64 0, .int .u64 0, .int .u64 0, .int .u64 0, .int .u64 0, .int .u64 0, .int .u64 0, .int .u64 0, .int .u64 0, .int .u64 0, .int .u64 0, .int .u64 0, .int .u64 0, .int .u64 0, .slice none 0 0, .int .i64 0] 30)).setRow w2.heap.size (flL (.slice A0 0 k0) (.slice A1 3 k1) p 0).toArray)) := (((But.refl (fun k => w2.heap.size ≤ k) w2).alloc _).row _ _ (.inl (Nat.le_refl _))).below (Nat.le_refl _) fun k _ q => q
 generalize (w2.alloc (.cells #[.slice none 0 0, .int .u64 0, .int .u64 0, .int .u64 0, .int .u64 0, .int .u64 0, .int .u64 0, .int .u64 0, .int .u64 0, .int .u64 0, .int .u64 0, .int .u64 0, .int .u64 0, .int .u64 0, .int .u64 0, .int .u64 0, .int .u64 0, .slice none 0 0, .int .i64 0] 30)).setRow w2.heap.size (flL (.slice A0 0 k0) (.slice A1 3 k1) p 0).toArray = W1 at *
 have HBB := Lib.hid (HB2.out.trans (HBR.out.mono HB2.out.size)); have HBS1 := Lib.hid (HBS2.out.below HBR.out HBS2.out.lt)
 have HB7 : Hid (w.heap.size < w2.heap.size) := HBS2.out.lt
 generalize w2.heap.size = b7 at *
 clear HB2 HB0 H2 HNW HBR HBS HBS2 HRS
 have HLV : Hid (∀ X, Below w.heap.size w X → Calls Tryd.prog 9 #[] X (GotB X.heap.size (.bool true) X)) := fun X hX => lives19_any (HG.out.below (hX.mono HG.out.le))
 obtain ⟨lt, hlt⟩ : ∃ b, lightP 0 3 ps = b := ⟨_, rfl⟩
 have HLT := Lib.hid hlt
 have HLI : Hid (∀ X, Below w.heap.size w X → Calls Tryd.prog 7 #[flV (.slice A0 0 k0) (.slice A1 3 k1) p 0, .slice PA ps.length pcap] X (GotB X.heap.size (.bool lt) X)) := fun X hX => by
  rw [← hlt]; exact light_any A0 A1 0 3 k0 k1 pcap (HG.out.below (hX.mono HG.out.le))
 clear hlt
 cases lt with
 | false =>
  have HLI1 := Lib.hid (HLI.out W1 HBB.out)
  go_upto_region 4 with (first
   | (with_reducible (show wpList _ _ _ _ _ _); refine ld_flat rfl (.tmp 7) rfl b7 rfl HBF.out ?_)
   | (go_at_call 7; (with_reducible refine HLI1.out.mono ?_); rintro e w3 ⟨rfl, h3⟩; have HB3 := Lib.hid (HBB.out.trans (h3.mono HBB.out.size)); have HBF3 := Lib.hid (Blk.below HBF.out h3 (Blk.lt HBF.out)); clear h3))
  have HLI3 := Lib.hid (HLI.out w3 HB3.out)
  have tf : (false == false) = true := rfl
  go_wp2_with (first
   | (with_reducible (show wpList _ _ _ _ _ _); refine ld_flat rfl (.tmp 7) rfl b7 rfl HBF3.out ?_)
   | (go_at_call 7; (with_reducible refine HLI3.out.mono ?_); rintro e w4 ⟨rfl, h4⟩; have HB4 := Lib.hid (HB3.out.trans (h4.mono HB3.out.size)); have HLV4 := Lib.hid (HLV.out _ HB4.out); clear h4)
   | (go_at_call 9; (with_reducible refine HLV4.out.mono ?_); rintro e w5 ⟨rfl, h5⟩; have HB5 := Lib.hid (HB4.out.trans (h5.mono HB4.out.size)); clear h5))
  go_ret
  exact ⟨rfl, HB5.out⟩
 | true =>
  have HLI1 := Lib.hid (HLI.out W1 HBB.out)
  have HRI : Hid (∀ X, Below W1.heap.size W1 X → Calls Tryd.prog 8 #[.agg (flL (.slice A0 0 k0) (.slice A1 3 k1) p 0).toArray] X (GotB X.heap.size (.bool true) X)) := fun X hX => by
   refine (right_any (f := plF p) (HIN.out.1.below hX) (fun A c q => Nat.zero_le _) (Nat.zero_le _) (show (3 : Nat) ≤ 1000 by omega)).mono ?_
   rintro e w' ⟨b, rfl, hb, h⟩
   rw [hb.2 (plF_right p)]
   exact ⟨rfl, h⟩
  have t3 : ((3 : Int) != 3) = false := rfl
  go_wp2_with (first
   | (with_reducible (show wpList _ _ _ _ _ _); refine ld_flat rfl (.tmp 7) rfl b7 rfl HBF.out ?_)
   | (go_at_call 7; (with_reducible refine HLI1.out.mono ?_); rintro e w3 ⟨rfl, h3⟩; have HB3 := Lib.hid (HBB.out.trans (h3.mono HBB.out.size)); have HBF3 := Lib.hid (Blk.below HBF.out h3 (Blk.lt HBF.out)); have HBS3 := Lib.hid (HBS1.out.below h3 HBS1.out.lt); have c17 := BF.c17 HBF3.out; have HIN3 := Lib.hid (HIN.out.1.below h3); have HRI3 := Lib.hid (HRI.out w3 h3); clear h3)
   | (with_reducible (show wpList _ _ _ _ _ _); refine loadS_halt rfl (.tmp 34) rfl ?_))
  refine Lib.hid ?_
  refine ld_ong (by rfl) (.tmp 34) rfl b7 rfl HBF3.out ?_
  refine ld_set (by rfl) (.tmp 3) rfl w.heap.size rfl p HBS3.out ?_
  refine neq_set (by rfl) (.tmp 35) (.tmp 36) _ rfl p p rfl rfl ?_
  rw [show (!eqP p p) = false by rw [eqP_true.2 fun _ _ => rfl]; rfl]
  go_wp2_with (with_reducible (show wpList _ _ _ _ _ _); refine loadN_halt rfl (.tmp 7) rfl ?_)
  refine Lib.hid ?_
  refine ld_flatN (by rfl) (.tmp 7) rfl b7 rfl HBF3.out ?_
  go_upto_region 5 with (go_at_call 8; (with_reducible refine HRI3.out.mono ?_); rintro e w4 ⟨rfl, h4⟩; have HB4 := Lib.hid (HB3.out.trans (h4.mono HB3.out.size)); have HBF4 := Lib.hid (Blk.below HBF3.out h4 (Blk.lt HBF3.out)); have HIN4 := Lib.hid (HIN3.out.below h4); clear h4)
  clear HBF HBF3 HBS1 HBS3 HIN3 HRI3 HB3 HCS HRI HLI HLI1 HBB c17 t3
  go_upto_region 6 with (first
   | (with_reducible (show wpList _ _ _ _ _ _); refine ld_flat rfl (.tmp 7) rfl b7 rfl HBF4.out ?_)
   | (with_reducible (show wpList _ _ _ _ _ _); refine st_flat rfl (.tmp 8) (.tmp 51) rfl w4.heap.size rfl rfl rfl rfl _ (Blk.new w4 _ _) rfl ?_))
  have HBR : Hid (Below w4.heap.size w4 ((w4.alloc (.cells #[.slice none 0 0, .int .u64 0, .int .u64 0, .int .u64 0, .int .u64 0, .int .u64 0, .int .u64 0, .int .u64 0, .int .u64 0, .int .u64 0, .int .u64 0, .int .u64 0, .int .u64 0, .int .u64 0, .int .u64 0, .int .u64 0, .int .u64 0, .slice none 0 0, .int .i64 0] 30)).setRow w4.heap.size (flL (.slice A0 0 k0) (.slice A1 3 k1) p 0).toArray)) := (((But.refl (fun k => w4.heap.size ≤ k) w4).alloc _).row _ _ (.inl (Nat.le_refl _))).below (Nat.le_refl _) fun k _ q => q
  have HPW : Hid (PlW w ((w4.alloc (.cells #[.slice none 0 0, .int .u64 0, .int .u64 0, .int .u64 0, .int .u64 0, .int .u64 0, .int .u64 0, .int .u64 0, .int .u64 0, .int .u64 0, .int .u64 0, .int .u64 0, .int .u64 0, .int .u64 0, .int .u64 0, .int .u64 0, .int .u64 0, .slice none 0 0, .int .i64 0] 30)).setRow w4.heap.size (flL (.slice A0 0 k0) (.slice A1 3 k1) p 0).toArray) w4.heap.size (.slice A0 0 k0) (.slice A1 3 k1) (plF p) n 0) :=
   ⟨BF.row (Blk.new w4 _ _), HIN4.out.below HBR.out, fun j hj => (by have := HIN4.out.lt hj; omega), fun _ _ _ => Nat.zero_le _, plF_right p, fun x hx => (by cases hx), Nat.le_refl _, rfl, show In64F 0 by unfold In64F; decide⟩
  have HBF5 := Lib.hid (Blk.below HBF4.out HBR.out (Blk.lt HBF4.out)); have HB5 := Lib.hid (HB4.out.trans (HBR.out.mono HB4.out.size)); have HIN5 := Lib.hid (HIN4.out.below HBR.out)
  have HX0 : Hid (b7 < w4.heap.size ∧ ∀ j, OwnX (.slice A0 0 k0) (.slice A1 3 k1) [] [-1, -1, -1] j → j < w4.heap.size) := ⟨Blk.lt HBF4.out, fun j hj => HIN4.out.lt hj⟩
  generalize (w4.alloc (.cells #[.slice none 0 0, .int .u64 0, .int .u64 0, .int .u64 0, .int .u64 0, .int .u64 0, .int .u64 0, .int .u64 0, .int .u64 0, .int .u64 0, .int .u64 0, .int .u64 0, .int .u64 0, .int .u64 0, .int .u64 0, .int .u64 0, .int .u64 0, .slice none 0 0, .int .i64 0] 30)).setRow w4.heap.size (flL (.slice A0 0 k0) (.slice A1 3 k1) p 0).toArray = W5 at *
  have HBW : Hid (BF W5 w4.heap.size (.slice A0 0 k0) (.slice A1 3 k1) p 0) := HPW.out.bf
  generalize w4.heap.size = b8 at *
  clear HBF4 HB4 HIN4 HBR
  obtain ⟨gz, bz, hgz⟩ : ∃ gz bz, playP ps (plF p) l 0 = (gz, bz) := ⟨_, _, rfl⟩
  have HGZ := Lib.hid hgz
  clear hgz
  go_wp2_with fail
  go_loopw [9, 54] (fun jv iv wr => ∃ (k : Nat) (Fw Ow : Value) (g : Fl), jv = .int .i64 (-1) ∧ iv = .int .i64 k ∧ k ≤ m ∧ Below w.heap.size w wr ∧ BF wr b7 (.slice A0 0 k0) (.slice A1 3 k1) p 0 ∧ InF wr (.slice A0 0 k0) (.slice A1 3 k1) [] [-1, -1, -1] ∧ PlW w wr b8 Fw Ow g n k ∧ playP ps g (l.drop k) k = (gz, bz)) (fun _ iv _ => m - (intOf iv).toNat)
  case atStart => exact ⟨0, _, _, plF p, rfl, rfl, Nat.zero_le _, HB5.out, HBF5.out, HIN5.out, HPW.out, by rw [List.drop_zero]; exact HGZ.out⟩
  case round =>
   obtain ⟨k, Fw, Ow, g, rfl, rfl, hk, hb, hbf, hin, hpw, hpl⟩ := hrel
   have HB := Lib.hid hb; have HBF := Lib.hid hbf; have HIN0 := Lib.hid hin; have HPW1 := Lib.hid hpw; have HPL := Lib.hid hpl
   obtain ⟨⟨Ag, cg, rfl⟩, Ah, ch, rfl⟩ := hpw.inn.sl
   clear hb hbf hin hpw hpl
   by_cases hlt : k < m
   ·
    obtain ⟨e, he⟩ : ∃ e, l[k]? = some e := ⟨_, List.getElem?_eq_getElem (by rw [HM.out]; exact hlt)⟩
    have hd : l.drop k = e :: l.drop (k + 1) := by
     have hkl := (List.getElem?_eq_some_iff.1 he).1
     rw [List.drop_eq_getElem_cons hkl]
     congr 1
     rw [List.getElem?_eq_getElem hkl] at he; simpa using he
    obtain ⟨eok, eb, eo, rfl, -, z0, z1, z2, z3, z4⟩ := (HEL.out.below HB.out) k e he
    have HEOK := Lib.hid eok
    obtain ⟨R, hR⟩ : ∃ R, turnP g ps e = R := ⟨_, rfl⟩
    have HR := Lib.hid hR
    have HPD : Hid (playP ps g (e :: l.drop (k + 1)) k = (gz, bz)) := by rw [← hd]; exact HPL.out
    have HNX : Hid (∀ X, Below wr.heap.size wr X → Calls Tryd.prog 10 #[.agg (flL (.slice Ag g.ts.length cg) (.slice Ah g.ow.length ch) g.p g.tm).toArray, .slice PA ps.length pcap, .agg #[.int .i64 e.kd, .int .i64 e.tk, .int .i64 e.cpu, .int .i64 e.a, .int .i64 e.b]] X (NxtG X (.slice Ag g.ts.length cg) (.slice Ah g.ow.length ch) g R)) := fun X hX => by
     rw [← hR]
     exact nexts_any (HPW1.out.inn.below hX) (by have := HPW1.out.len; omega) (by rw [HPW1.out.low]; omega) pcap (HG.out.below ((HB.out.trans (hX.mono HB.out.size)).mono HG.out.le)) HPW1.out.right HPW1.out.regs HPW1.out.tm e eok
    have j0 : (0 : Int) ≤ (k : Int) := by omega
    have j1 : (k : Int) < (m : Int) := by omega
    have hal : Below wr.heap.size wr (wr.alloc (.cells #[.int .i64 e.kd, .int .i64 e.tk, .int .i64 e.cpu, .int .i64 e.a, .int .i64 e.b] 36)) := (Below.refl _ _).alloc (Nat.le_refl _) _
    have hbe := Blk.new wr 36 #[.int .i64 e.kd, .int .i64 e.tk, .int .i64 e.cpu, .int .i64 e.a, .int .i64 e.b]
    clear hd eok hR he HPL
    go_upto_region 10 with fail
    generalize wr.alloc (.cells #[.int .i64 e.kd, .int .i64 e.tk, .int .i64 e.cpu, .int .i64 e.a, .int .i64 e.b] 36) = V at *
    have HBV := Lib.hid (HB.out.trans (hal.mono HB.out.size)); have HBFV := Lib.hid (Blk.below HBF.out hal (Blk.lt HBF.out)); have HINV := Lib.hid (HIN0.out.below hal); have HPWV := Lib.hid (HPW1.out.on hal)
    have HBWV : Hid (BF V b8 (.slice Ag g.ts.length cg) (.slice Ah g.ow.length ch) g.p g.tm) := HPWV.out.bf
    have HNXV := Lib.hid (HNX.out V hal)
    have y0 := hbe.cell 0; have y1 := hbe.cell 1; have y2 := hbe.cell 2; have y3 := hbe.cell 3; have y4 := hbe.cell 4
    simp only [List.getElem?_toArray, List.getElem?_cons_succ, List.getElem?_cons_zero] at y0 y1 y2 y3 y4
    generalize wr.heap.size = b11 at *
    clear hal hbe HB HBF HIN0 HPW1 HNX z0 z1 z2 z3 z4
    go_upto_region 11 with (first
     | (with_reducible (show wpList _ _ _ _ _ _); refine ld_flat rfl (.tmp 8) rfl b8 rfl HBWV.out ?_)
     | (go_at_call 10; (with_reducible refine HNXV.out.mono ?_); rintro er w6 ⟨F3, O3, rfl, h3, hX3, hC3, hb3⟩; have H3 := Lib.hid h3; have HX3 := Lib.hid hX3; have HC3 := Lib.hid hC3; have HB3 := Lib.hid hb3; have oF3 := h3.one.1; have oO3 := h3.one.2; clear h3 hX3 hC3 hb3)
     | (with_reducible (show wpList _ _ _ _ _ _); refine st_flat rfl (.tmp 12) (.tmp 64) rfl w6.heap.size rfl rfl oF3 oO3 _ (Blk.new w6 _ _) rfl ?_))
    clear y0 y1 y2 y3 y4 HNXV HBWV
    have HBR : Hid (Below w6.heap.size w6 ((w6.alloc (.cells #[.slice none 0 0, .int .u64 0, .int .u64 0, .int .u64 0, .int .u64 0, .int .u64 0, .int .u64 0, .int .u64 0, .int .u64 0, .int .u64 0, .int .u64 0, .int .u64 0, .int .u64 0, .int .u64 0, .int .u64 0, .int .u64 0, .int .u64 0, .slice none 0 0, .int .i64 0] 30)).setRow w6.heap.size (flL F3 O3 (R.getD g).p (R.getD g).tm).toArray)) := (((But.refl (fun k => w6.heap.size ≤ k) w6).alloc _).row _ _ (.inl (Nat.le_refl _))).below (Nat.le_refl _) fun k _ q => q
    have HBF12 : Hid (BF ((w6.alloc (.cells #[.slice none 0 0, .int .u64 0, .int .u64 0, .int .u64 0, .int .u64 0, .int .u64 0, .int .u64 0, .int .u64 0, .int .u64 0, .int .u64 0, .int .u64 0, .int .u64 0, .int .u64 0, .int .u64 0, .int .u64 0, .int .u64 0, .int .u64 0, .slice none 0 0, .int .i64 0] 30)).setRow w6.heap.size (flL F3 O3 (R.getD g).p (R.getD g).tm).toArray) w6.heap.size F3 O3 (R.getD g).p (R.getD g).tm) := BF.row (Blk.new w6 _ _)
    generalize (w6.alloc (.cells #[.slice none 0 0, .int .u64 0, .int .u64 0, .int .u64 0, .int .u64 0, .int .u64 0, .int .u64 0, .int .u64 0, .int .u64 0, .int .u64 0, .int .u64 0, .int .u64 0, .int .u64 0, .int .u64 0, .int .u64 0, .int .u64 0, .int .u64 0, .slice none 0 0, .int .i64 0] 30)).setRow w6.heap.size (flL F3 O3 (R.getD g).p (R.getD g).tm).toArray = W7 at *
    have HB37 := Lib.hid (HB3.out.trans (HBR.out.mono HB3.out.size))
    have HBV7 := Lib.hid (HBV.out.trans (HB37.out.mono HBV.out.size)); have HBFV7 := Lib.hid (Blk.below HBFV.out HB37.out (Blk.lt HBFV.out)); have HINV7 := Lib.hid (HINV.out.below HB37.out); have HPWV7 := Lib.hid (HPWV.out.on HB37.out); have H37 := Lib.hid (H3.out.below HBR.out)
    have HN12 : Hid (V.heap.size ≤ w6.heap.size) := HB3.out.size
    generalize w6.heap.size = b12 at *
    cases R with
    | none =>
     have hge : (g, (k : Int)) = (gz, bz) := by have := HPD.out; unfold playP at this; rw [HR.out] at this; exact this
     obtain ⟨rfl, rfl⟩ := Prod.mk.inj hge
     have HB := HBV7; have HBF := HBFV7; have HIN0 := HINV7; have HPW1 := HPWV7
     clear hge HPD H37 H3 HB3 HBR HBF12 HB37 HBV HBFV HINV HPWV HX3 HC3 HBV7 HBFV7 HINV7 HPWV7 HN12 oF3 oO3
     generalize W7 = V at *
     have HPY : Hid (Calls Tryd.prog 11 #[.agg (flL (.slice A0 0 k0) (.slice A1 3 k1) p 0).toArray, .slice PA ps.length pcap, .slice (some ⟨eb, eo, none⟩) m ecap] V (PlaG V (g, (k : Int)))) := by
      have := play_any (f := plF p) (l := l) HIN0.out pcap ecap (by rw [HM.out]; show 0 + m ≤ 900; omega) (show (3 : Nat) ≤ 900 by omega) (HG.out.below (HB.out.mono HG.out.le)) (show In64F 0 by unfold In64F; decide) (HEL.out.below HB.out)
      rw [HGZ.out, HM.out] at this; exact this
     have HBWV : Hid (BF V b8 (.slice Ag g.ts.length cg) (.slice Ah g.ow.length ch) g.p g.tm) := HPW1.out.bf
     have tb : ((k : Int) == (k : Int)) = true := by simp
     go_upto_region 18 with (first
      | (with_reducible (show wpList _ _ _ _ _ _); refine ld_flat rfl (.tmp 7) rfl b7 rfl HBF.out ?_)
      | (go_at_call 11; (with_reducible refine HPY.out.mono ?_); rintro er w6 ⟨F3, O3, rfl, h3, hb3⟩; have H3 := Lib.hid h3.inF; have HB3 := Lib.hid hb3; have oF3 := h3.inF.one.1; have oO3 := h3.inF.one.2; clear h3 hb3)
      | (with_reducible (show wpList _ _ _ _ _ _); refine st_flat rfl (.tmp 14) (.tmp 79) rfl w6.heap.size rfl rfl oF3 oO3 _ (Blk.new w6 _ _) rfl ?_))
     (try dsimp only at H3 ⊢)
     have HBR : Hid (Below w6.heap.size w6 ((w6.alloc (.cells #[.slice none 0 0, .int .u64 0, .int .u64 0, .int .u64 0, .int .u64 0, .int .u64 0, .int .u64 0, .int .u64 0, .int .u64 0, .int .u64 0, .int .u64 0, .int .u64 0, .int .u64 0, .int .u64 0, .int .u64 0, .int .u64 0, .int .u64 0, .slice none 0 0, .int .i64 0] 30)).setRow w6.heap.size (flL F3 O3 g.p g.tm).toArray)) := (((But.refl (fun k => w6.heap.size ≤ k) w6).alloc _).row _ _ (.inl (Nat.le_refl _))).below (Nat.le_refl _) fun k _ q => q
     have HBF14 : Hid (BF ((w6.alloc (.cells #[.slice none 0 0, .int .u64 0, .int .u64 0, .int .u64 0, .int .u64 0, .int .u64 0, .int .u64 0, .int .u64 0, .int .u64 0, .int .u64 0, .int .u64 0, .int .u64 0, .int .u64 0, .int .u64 0, .int .u64 0, .int .u64 0, .int .u64 0, .slice none 0 0, .int .i64 0] 30)).setRow w6.heap.size (flL F3 O3 g.p g.tm).toArray) w6.heap.size F3 O3 g.p g.tm) := BF.row (Blk.new w6 _ _)
     generalize (w6.alloc (.cells #[.slice none 0 0, .int .u64 0, .int .u64 0, .int .u64 0, .int .u64 0, .int .u64 0, .int .u64 0, .int .u64 0, .int .u64 0, .int .u64 0, .int .u64 0, .int .u64 0, .int .u64 0, .int .u64 0, .int .u64 0, .int .u64 0, .int .u64 0, .slice none 0 0, .int .i64 0] 30)).setRow w6.heap.size (flL F3 O3 g.p g.tm).toArray = W7 at *
     have HB37 := Lib.hid (HB3.out.trans (HBR.out.mono HB3.out.size))
     have HB7w := Lib.hid (HB.out.trans (HB37.out.mono HB.out.size)); have HPW7 := Lib.hid (HPW1.out.on HB37.out); have H37 := Lib.hid (H3.out.below HBR.out)
     have HBW7 : Hid (BF W7 b8 (.slice Ag g.ts.length cg) (.slice Ah g.ow.length ch) g.p g.tm) := HPW7.out.bf
     generalize w6.heap.size = b14 at *
     have HSM : Hid (Calls Tryd.prog 12 #[.agg (flL F3 O3 g.p g.tm).toArray, .agg (flL (.slice Ag g.ts.length cg) (.slice Ah g.ow.length ch) g.p g.tm).toArray] W7 (GotB W7.heap.size (.bool true) W7)) := same_yes (p := g.p) (t := g.tm) H37.out HPW7.out.inn (by have := HPW7.out.len; omega) (by rw [HPW7.out.low]; omega)
     clear HB3 HBR H3 HPY HBWV HB HBF HIN0
     go_wp2_with (with_reducible (show wpList _ _ _ _ _ _); refine loadN_halt rfl (.tmp 14) rfl ?_)
     refine Lib.hid ?_
     refine ld_flatN (by rfl) (.tmp 14) rfl b14 rfl HBF14.out ?_
     refine ld_flatN (by rfl) (.tmp 8) rfl b8 rfl HBW7.out ?_
     go_wp2_with (first
      | (go_at_call 12; (with_reducible refine HSM.out.mono ?_); rintro e w9 ⟨rfl, h9⟩; have HB9 := Lib.hid (HB7w.out.trans (h9.mono HB7w.out.size)); have HBF9 := Lib.hid (Blk.below HBF14.out h9 (Blk.lt HBF14.out)); have HCR : Hid (Calls Tryd.prog 13 #[.agg (flL F3 O3 g.p g.tm).toArray] w9 (GotB w9.heap.size (.bool true) w9)) := cright_any (f := g) (H37.out.below h9) (by have := HPW7.out.len; omega) (by rw [HPW7.out.low]; omega) HPW7.out.right; clear h9)
      | (with_reducible (show wpList _ _ _ _ _ _); refine loadN_halt rfl (.tmp 14) rfl ?_))
     refine Lib.hid ?_
     refine ld_flatN (by rfl) (.tmp 14) rfl b14 rfl HBF9.out ?_
     go_wp2_with (first
      | (go_at_call 13; (with_reducible refine HCR.out.mono ?_); rintro e wA ⟨rfl, hA⟩; have HBA := Lib.hid (HB9.out.trans (hA.mono HB9.out.size)); have HLVA := Lib.hid (HLV.out _ HBA.out); clear hA)
      | (go_at_call 9; (with_reducible refine HLVA.out.mono ?_); rintro e wC ⟨rfl, hC⟩; have HBC := Lib.hid (HBA.out.trans (hC.mono HBA.out.size)); clear hC))
     go_ret
     exact ⟨rfl, HBC.out⟩
    | some g2 =>
     (try dsimp only [Option.getD_some] at *)
     have HP2 : Hid (playP ps g2 (l.drop (k + 1)) (k + 1) = (gz, bz)) := by have := HPD.out; unfold playP at this; rw [HR.out] at this; exact this
     have hkp := turnP_keeps HR.out
     have hln := turnP_len HR.out
     have HW2 : Hid (RightF g2 ∧ (∀ x ∈ g2.ts, x.r.Ok) ∧ g2.ts.length ≤ k + 1 ∧ g2.ow.length = 3 ∧ In64F g2.tm ∧ (∀ j, OwnX F3 O3 g2.ts g2.ow j → j ≠ b8) ∧ CapF F3 g2.ts.length) :=
      ⟨hkp.1 HPWV.out.right, turnP_regs HR.out HPWV.out.regs (gnd_ins HG.out), (by have := HPWV.out.len; have := hln.1; omega), (by have := HPWV.out.low; have := hln.2.1; omega), hln.2.2 HPWV.out.tm HEOK.out.a, (fun j hj => by
       rcases HX3.out j hj with z | z
       ·
        have := Blk.lt HPWV.out.bf; omega
       ·
        exact HPWV.out.ne j z), HC3.out HPWV.out.cap⟩
     have HB8 : Hid (b8 < V.heap.size) := Blk.lt HPWV.out.bf
     obtain ⟨old8, hb8, hold8⟩ : ∃ old8, Blk W7 b8 30 old8 ∧ old8.size = 19 := ⟨_, HPWV7.out.bf, by rw [List.size_toArray, flL_len]⟩
     have HB88 := Lib.hid hb8; have HOLD8 := Lib.hid hold8
     clear hkp hln hb8 hold8
     go_upto_region 14 with (first
      | (with_reducible (show wpList _ _ _ _ _ _); refine ld_flat rfl (.tmp 12) rfl b12 rfl HBF12.out ?_)
      | (with_reducible (show wpList _ _ _ _ _ _); refine st_flat rfl (.tmp 8) (.tmp 69) rfl b8 rfl rfl oF3 oO3 old8 HB88.out HOLD8.out ?_))
     have hbt : But (fun k => k = b8) W7 (W7.setRow b8 (flL F3 O3 g2.p g2.tm).toArray) := (But.refl _ _).row _ _ (.inl rfl)
     have HBF8 : Hid (BF (W7.setRow b8 (flL F3 O3 g2.p g2.tm).toArray) b8 F3 O3 g2.p g2.tm) := BF.row HB88.out
     have HBFf : Hid (BF (W7.setRow b8 (flL F3 O3 g2.p g2.tm).toArray) b7 (.slice A0 0 k0) (.slice A1 3 k1) p 0) := Blk.but HBFV7.out hbt (by have := HX0.out.1; omega)
     have HINf : Hid (InF (W7.setRow b8 (flL F3 O3 g2.p g2.tm).toArray) (.slice A0 0 k0) (.slice A1 3 k1) [] [-1, -1, -1]) := HINV7.out.but hbt fun j hj z => by have := HX0.out.2 j hj; omega
     have HINg : Hid (InF (W7.setRow b8 (flL F3 O3 g2.p g2.tm).toArray) F3 O3 g2.ts g2.ow) := H37.out.but hbt fun j hj z => HW2.out.2.2.2.2.2.1 j hj z
     have HBl : Hid (Below w.heap.size w (W7.setRow b8 (flL F3 O3 g2.p g2.tm).toArray)) := ((But.of_below (X := fun k => w.heap.size ≤ k) HBV7.out).row _ _ (.inl (by show w.heap.size ≤ b8; have := HX0.out.1; have := HB7.out; omega))).below (Nat.le_refl _) fun k _ q => q
     clear hbt HB88
     generalize W7.setRow b8 (flL F3 O3 g2.p g2.tm).toArray = W8 at *
     have HRI : Hid (Calls Tryd.prog 8 #[.agg (flL F3 O3 g2.p g2.tm).toArray] W8 (GotB W8.heap.size (.bool true) W8)) := by
      refine (right_any (f := g2) HINg.out (fun A c q => HW2.out.2.2.2.2.2.2 A c q) (by have := HW2.out.2.2.1; omega) (by rw [HW2.out.2.2.2.1]; omega)).mono ?_
      rintro e w' ⟨b, rfl, hb, h⟩
      rw [hb.2 HW2.out.1]
      exact ⟨rfl, h⟩
     go_wp2_with (first
      | (with_reducible (show wpList _ _ _ _ _ _); refine ld_flat rfl (.tmp 8) rfl b8 rfl HBF8.out ?_)
      | (go_at_call 8; (with_reducible refine HRI.out.mono ?_); rintro e w9 ⟨rfl, h9⟩; have HD9 := Lib.hid h9; clear h9))
     go_roundw
     case rel =>
      have hd9 := HD9.out
      exact ⟨k + 1, F3, O3, g2, rfl, by go_num, by omega, HBl.out.trans (hd9.mono HBl.out.size), Blk.below HBFf.out hd9 (Blk.lt HBFf.out), HINf.out.below hd9, ⟨Blk.below HBF8.out hd9 (Blk.lt HBF8.out), HINg.out.below hd9, HW2.out.2.2.2.2.2.1, HW2.out.2.2.2.2.2.2, HW2.out.1, HW2.out.2.1, HW2.out.2.2.1, HW2.out.2.2.2.1, HW2.out.2.2.2.2.1⟩, HP2.out⟩
     case measure => simp [intOf]; omega
   ·
    obtain rfl : k = m := by omega
    have tk : ¬ (k : Int) < (k : Int) := by omega
    have hge : (g, (-1 : Int)) = (gz, bz) := by
     have := HPL.out
     rw [List.drop_of_length_le (by rw [HM.out]; exact Nat.le_refl _)] at this
     exact this
    obtain ⟨rfl, rfl⟩ := Prod.mk.inj hge
    clear hge
    obtain ⟨V, hV⟩ : ∃ V, wr = V := ⟨_, rfl⟩
    rw [hV] at HB HBF HIN0 HPW1 ⊢
    clear hV
    have HPY : Hid (Calls Tryd.prog 11 #[.agg (flL (.slice A0 0 k0) (.slice A1 3 k1) p 0).toArray, .slice PA ps.length pcap, .slice EA k ecap] V (PlaG V (g, -1))) := by
     have := play_any (f := plF p) (l := l) HIN0.out pcap ecap (by rw [HM.out]; show 0 + k ≤ 900; omega) (show (3 : Nat) ≤ 900 by omega) (HG.out.below (HB.out.mono HG.out.le)) (show In64F 0 by unfold In64F; decide) (HEL.out.below HB.out)
     rw [HGZ.out, HM.out] at this; exact this
    have HBWV : Hid (BF V b8 (.slice Ag g.ts.length cg) (.slice Ah g.ow.length ch) g.p g.tm) := HPW1.out.bf
    have tb : ((-1 : Int) == (-1 : Int)) = true := by simp
    go_upto_region 18 with (first
     | (with_reducible (show wpList _ _ _ _ _ _); refine ld_flat rfl (.tmp 7) rfl b7 rfl HBF.out ?_)
     | (go_at_call 11; (with_reducible refine HPY.out.mono ?_); rintro er w6 ⟨F3, O3, rfl, h3, hb3⟩; have H3 := Lib.hid h3.inF; have HB3 := Lib.hid hb3; have oF3 := h3.inF.one.1; have oO3 := h3.inF.one.2; clear h3 hb3)
     | (with_reducible (show wpList _ _ _ _ _ _); refine st_flat rfl (.tmp 14) (.tmp 79) rfl w6.heap.size rfl rfl oF3 oO3 _ (Blk.new w6 _ _) rfl ?_))
    (try dsimp only at H3 ⊢)
    have HBR : Hid (Below w6.heap.size w6 ((w6.alloc (.cells #[.slice none 0 0, .int .u64 0, .int .u64 0, .int .u64 0, .int .u64 0, .int .u64 0, .int .u64 0, .int .u64 0, .int .u64 0, .int .u64 0, .int .u64 0, .int .u64 0, .int .u64 0, .int .u64 0, .int .u64 0, .int .u64 0, .int .u64 0, .slice none 0 0, .int .i64 0] 30)).setRow w6.heap.size (flL F3 O3 g.p g.tm).toArray)) := (((But.refl (fun k => w6.heap.size ≤ k) w6).alloc _).row _ _ (.inl (Nat.le_refl _))).below (Nat.le_refl _) fun k _ q => q
    have HBF14 : Hid (BF ((w6.alloc (.cells #[.slice none 0 0, .int .u64 0, .int .u64 0, .int .u64 0, .int .u64 0, .int .u64 0, .int .u64 0, .int .u64 0, .int .u64 0, .int .u64 0, .int .u64 0, .int .u64 0, .int .u64 0, .int .u64 0, .int .u64 0, .int .u64 0, .int .u64 0, .slice none 0 0, .int .i64 0] 30)).setRow w6.heap.size (flL F3 O3 g.p g.tm).toArray) w6.heap.size F3 O3 g.p g.tm) := BF.row (Blk.new w6 _ _)
    generalize (w6.alloc (.cells #[.slice none 0 0, .int .u64 0, .int .u64 0, .int .u64 0, .int .u64 0, .int .u64 0, .int .u64 0, .int .u64 0, .int .u64 0, .int .u64 0, .int .u64 0, .int .u64 0, .int .u64 0, .int .u64 0, .int .u64 0, .int .u64 0, .int .u64 0, .slice none 0 0, .int .i64 0] 30)).setRow w6.heap.size (flL F3 O3 g.p g.tm).toArray = W7 at *
    have HB37 := Lib.hid (HB3.out.trans (HBR.out.mono HB3.out.size))
    have HB7w := Lib.hid (HB.out.trans (HB37.out.mono HB.out.size)); have HPW7 := Lib.hid (HPW1.out.on HB37.out); have H37 := Lib.hid (H3.out.below HBR.out)
    have HBW7 : Hid (BF W7 b8 (.slice Ag g.ts.length cg) (.slice Ah g.ow.length ch) g.p g.tm) := HPW7.out.bf
    generalize w6.heap.size = b14 at *
    have HSM : Hid (Calls Tryd.prog 12 #[.agg (flL F3 O3 g.p g.tm).toArray, .agg (flL (.slice Ag g.ts.length cg) (.slice Ah g.ow.length ch) g.p g.tm).toArray] W7 (GotB W7.heap.size (.bool true) W7)) := same_yes (p := g.p) (t := g.tm) H37.out HPW7.out.inn (by have := HPW7.out.len; omega) (by rw [HPW7.out.low]; omega)
    clear HB3 HBR H3 HPY HBWV HB HBF HIN0
    go_wp2_with (with_reducible (show wpList _ _ _ _ _ _); refine loadN_halt rfl (.tmp 14) rfl ?_)
    refine Lib.hid ?_
    refine ld_flatN (by rfl) (.tmp 14) rfl b14 rfl HBF14.out ?_
    refine ld_flatN (by rfl) (.tmp 8) rfl b8 rfl HBW7.out ?_
    go_wp2_with (first
     | (go_at_call 12; (with_reducible refine HSM.out.mono ?_); rintro e w9 ⟨rfl, h9⟩; have HB9 := Lib.hid (HB7w.out.trans (h9.mono HB7w.out.size)); have HBF9 := Lib.hid (Blk.below HBF14.out h9 (Blk.lt HBF14.out)); have HCR : Hid (Calls Tryd.prog 13 #[.agg (flL F3 O3 g.p g.tm).toArray] w9 (GotB w9.heap.size (.bool true) w9)) := cright_any (f := g) (H37.out.below h9) (by have := HPW7.out.len; omega) (by rw [HPW7.out.low]; omega) HPW7.out.right; clear h9)
     | (with_reducible (show wpList _ _ _ _ _ _); refine loadN_halt rfl (.tmp 14) rfl ?_))
    refine Lib.hid ?_
    refine ld_flatN (by rfl) (.tmp 14) rfl b14 rfl HBF9.out ?_
    go_wp2_with (first
     | (go_at_call 13; (with_reducible refine HCR.out.mono ?_); rintro e wA ⟨rfl, hA⟩; have HBA := Lib.hid (HB9.out.trans (hA.mono HB9.out.size)); have HLVA := Lib.hid (HLV.out _ HBA.out); clear hA)
     | (go_at_call 9; (with_reducible refine HLVA.out.mono ?_); rintro e wC ⟨rfl, hC⟩; have HBC := Lib.hid (HBA.out.trans (hC.mono HBA.out.size)); clear hC))
    go_ret
    exact ⟨rfl, HBC.out⟩
end
end Go.Proofs.YtilaalleiiakoaaDoor
