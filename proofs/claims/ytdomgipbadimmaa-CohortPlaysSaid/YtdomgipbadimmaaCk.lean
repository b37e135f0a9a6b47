/- A task takes the lock, or waits: take (layer 14). -/
import Derived.Test.YtdomgipbadimmaaCa
import Derived.Test.YtdomgipbadimmaaCz
namespace Go.Proofs.Ytdomgipbadimmaa
open Go.RowKit
set_option maxRecDepth 100000

theorem xlock_of {lb : Nat} {lab : Nat → LabC} {i k : Nat} (h : OfLock i (lab k)) : XLock lb lab i k := .inr h
/-- What was there is written as the lock's: also behind a call that made more. -/
theorem xlock_up {lb : Nat} {lab lab' : Nat → LabC} {i : Nat} {w w1 w2 : World} (hb : But (XLock lb lab i) w w1) (hu : LabUp lab lab' i w) (hb2 : But (XLock lb lab' i) w1 w2) : But (XLock lb lab i) w w2 :=
  hb.step hb2 fun k hk q => by
    rcases q with q | q
    · exact .inl q
    · rw [hu.old k hk] at q; exact .inr q
theorem LockV.rnd_ {cs : Array Value} {i : Nat} {c : Coh} {rv : Value} (h : LockV cs i c rv) (L : List CRow) : LockV cs i { c with rnd := L } rv := ⟨h.c0, h.c1, h.c2, h.c3⟩
theorem step_load_rows {ops : Array Oper} {o : Oper} {a : Act} {w : World} {K : Act → World → Prop} {Q : Exit → Act → World → Prop} {E : Prop} (hg : o.guard = none) (x : Operand) (ho : o.op = .load 87 x)
    (p : Addr) (v : Value) (hx : a.eval x = .pointer (some p)) (hc : w.cell? p = some v) (hK : K (a.put o.dst v) w) : if Region.wanted o (yielded ops a.tmps) = true then Oper.wp Try.prog o a w K Q else E := by
  rw [if_pos (by simp [Region.wanted, hg])]
  have hr : (Instr.loadAt 87 (.pointer (some p))).run Try.prog w = .ok v w := by
    have hp := Try.underlying87
    simp [Instr.loadAt, Instr.sureAddr, loadVar, isAgg, run_underlying hp, hc, go_sem]
  unfold Oper.wp execOp
  simp only [ho, hx, Sem.run_bind, Sem.run_pure, Result.andThen_ok, hr]
  exact hK
theorem step_load_ints {ops : Array Oper} {o : Oper} {a : Act} {w : World} {K : Act → World → Prop} {Q : Exit → Act → World → Prop} {E : Prop} (hg : o.guard = none) (x : Operand) (ho : o.op = .load 55 x)
    (p : Addr) (v : Value) (hx : a.eval x = .pointer (some p)) (hc : w.cell? p = some v) (hK : K (a.put o.dst v) w) : if Region.wanted o (yielded ops a.tmps) = true then Oper.wp Try.prog o a w K Q else E := by
  rw [if_pos (by simp [Region.wanted, hg])]
  have hr : (Instr.loadAt 55 (.pointer (some p))).run Try.prog w = .ok v w := by
    have hp := Try.underlying55
    simp [Instr.loadAt, Instr.sureAddr, loadVar, isAgg, run_underlying hp, hc, go_sem]
  unfold Oper.wp execOp
  simp only [ho, hx, Sem.run_bind, Sem.run_pure, Result.andThen_ok, hr]
  exact hK
theorem haltC {p : Prop} (h : Hid p) : p := h.out
theorem rows_set2 {X : Nat → Prop} {w w' : World} {lab lab' : Nat → LabC} {i : Nat} {rcs : Array Value} {A C : List CRow} {r : CRow} {tv : Value} {ts : List Int} {p : Nat} (hp : p = 2 * A.length + 1) (h : RowsM w lab i rcs (A ++ r :: C)) (hX : ∀ q ∈ A ++ C, ∀ k, lab k = .tasks i q.1 → ¬ X k) (hb : But X w w') (hl : ∀ k, k < w.heap.size → lab' k = lab k) (hs : p < rcs.size) (ht : TaskM w' lab' i r.1 tv ts) :
    RowsM w' lab' i (rcs.setIfInBounds p tv) (A ++ (r.1, ts) :: C) := by
  subst hp
  intro j q hq
  by_cases e : j = A.length
  · subst e
    rw [List.getElem?_append_right (Nat.le_refl _), Nat.sub_self] at hq
    cases hq
    obtain ⟨h1, -⟩ := h A.length r (by rw [List.getElem?_append_right (Nat.le_refl _), Nat.sub_self]; rfl)
    exact ⟨by rw [Array.getElem?_setIfInBounds, if_neg (by omega)]; exact h1, tv, by rw [Array.getElem?_setIfInBounds, if_pos rfl, if_pos hs], ht⟩
  · have hq' : (A ++ r :: C)[j]? = some q ∧ q ∈ A ++ C := by
      by_cases l : j < A.length
      · rw [List.getElem?_append_left l] at hq ⊢; exact ⟨hq, List.mem_append_left _ (List.mem_of_getElem? hq)⟩
      · rw [List.getElem?_append_right (by omega)] at hq ⊢
        rw [show j - A.length = (j - A.length - 1) + 1 by omega, List.getElem?_cons_succ] at hq ⊢
        exact ⟨hq, List.mem_append_right _ (List.mem_of_getElem? hq)⟩
    obtain ⟨h1, tv', h2, h3⟩ := h j q hq'.1
    exact ⟨by rw [Array.getElem?_setIfInBounds, if_neg (by omega)]; exact h1, tv', by rw [Array.getElem?_setIfInBounds, if_neg (by omega)]; exact h2, h3.but hb (fun k hk => hX q hq'.2 k hk) hl⟩
theorem nodup_ne {A C : List CRow} {s : Int} {ts : List Int} (h : ((A ++ (s, ts) :: C).map (·.1)).Nodup) : ∀ q ∈ A ++ C, q.1 ≠ s := by
  rw [List.map_append, List.map_cons, List.nodup_append] at h
  obtain ⟨_, h2, h3⟩ := h
  rw [List.nodup_cons] at h2
  intro q hq e
  rcases List.mem_append.1 hq with q1 | q1
  · exact h3 q.1 (List.mem_map_of_mem q1) s (by simp) e
  · have := List.mem_map_of_mem (f := fun r : CRow => r.1) q1
    rw [e] at this
    exact h2.1 this
section
variable {w : World} {lb : Nat} {lab : Nat → LabC} {i : Nat} {c : Coh} {cs : Array Value} {rv : Value}
theorem LockM.free (h : LockM w lb lab i c cs rv) (k : Nat) : w.frozen? ⟨lb, k, none⟩ = false := h.blk.free k
set_option maxHeartbeats 8000000 in
theorem take_free {t s : Int} (h : LockM w lb lab i c cs rv) (hc : c.own = -1) :
    Calls Try.prog 47 #[.pointer (some ⟨lb, 4 * i, none⟩), .int .i64 t, .int .i64 s] w fun e w' => e = .returned (.bool true) ∧ ∃ lab', TurnC lb lab lab' i (takeC c t s) cs w w' := by
  obtain ⟨c0, c1, -, -⟩ := h.cell
  rw [hc] at c0
  have f0 := h.free (4 * i)
  have f1 := h.free (4 * i + 1)
  have H := Lib.hid h; have HC := Lib.hid hc
  clear h hc
  go_enter Try.func47, Try.ntmps47
  go_wp2_with fail
  go_ret
  have hb : But (fun k => k = lb) w ((w.setCell ⟨lb, 4 * i, none⟩ (.int .i64 t)).setCell ⟨lb, 4 * i + 1, none⟩ (.int .i64 s)) := ((But.refl (fun k => k = lb) _).set ⟨lb, 4 * i, none⟩ _ (.inl rfl)).set ⟨lb, 4 * i + 1, none⟩ _ (.inl rfl)
  have hk := (H.out.blk.set_ (4 * i) (.int .i64 t)).set_ (4 * i + 1) (.int .i64 s)
  have hl := H.out.val.lt
  refine ⟨rfl, lab, ⟨_, rv, ⟨hk, ?_, ?_, H.out.own, fun k q => H.out.fre k (Nat.le_trans hb.size q)⟩, (OutC.set_ (d := 0) (by omega) _).trans (OutC.set_ (d := 1) (by omega) _)⟩, hb.mono fun k _ q => .inl q, LabUp.refl _ _ _⟩
  · unfold takeC; rw [if_pos HC.out]
    refine ⟨?_, ?_, ?_, ?_⟩
    · rw [Array.getElem?_setIfInBounds, if_neg (by omega), Array.getElem?_setIfInBounds, if_pos rfl, if_pos (by omega)]
    · rw [Array.getElem?_setIfInBounds, if_pos rfl, if_pos (by simp; omega)]
    · rw [Array.getElem?_setIfInBounds, if_neg (by omega), Array.getElem?_setIfInBounds, if_neg (by omega)]; exact H.out.val.c2
    · rw [Array.getElem?_setIfInBounds, if_neg (by omega), Array.getElem?_setIfInBounds, if_neg (by omega)]; exact H.out.val.c3
  · unfold takeC; rw [if_pos HC.out]
    exact H.out.rnd.but hb (fun k q e => by subst e; rw [H.out.own] at q; exact q) (fun _ _ => rfl)
/-- Behind the choice of the row, ahead of the append. -/
structure MidK (lb : Nat) (lab : Nat → LabC) (i : Nat) (c : Coh) (cs : Array Value) (s t : Int) (w : World) (A : List CRow) (ts : List Int) (C : List CRow) (wx : World) : Prop where
  lock : ∃ lab' cs' rv', LockM wx lb lab' i { c with rnd := A ++ (s, ts) :: C } cs' rv' ∧ OutC i cs cs' ∧ LabUp lab lab' i w
  but : But (XLock lb lab i) w wx
  add : A ++ (s, ts ++ [t]) :: C = addR s t c.rnd
  len : ts.length ≤ 1000 ∧ A.length + C.length ≤ 1000
  ne : ∀ q ∈ A ++ C, q.1 ≠ s
set_option maxHeartbeats 8000000 in
theorem take_wait {t s : Int} (h : LockM w lb lab i c cs rv) (hc : c.own ≠ -1) (hl : c.rnd.length ≤ 900) (hm : ∀ r ∈ c.rnd, r.2.length ≤ 900) (hnd : (c.rnd.map (·.1)).Nodup) :
    Calls Try.prog 47 #[.pointer (some ⟨lb, 4 * i, none⟩), .int .i64 t, .int .i64 s] w fun e w' => e = .returned (.bool false) ∧ ∃ lab', TurnC lb lab lab' i (takeC c t s) cs w w' := by
  obtain ⟨c0, c1, -, -⟩ := h.cell
  have t0 : (c.own == -1) = false := by simpa using hc
  have hal : But Nob w (w.alloc (.cells #[.int .i64 s] 3)) := (But.refl _ _).alloc _
  have h1 := h.nob hal
  have P := Lib.hid (find_of s (by omega) h1 w.heap.size ((Blk.new w 3 #[.int .i64 s]).cell 0))
  have Q := Lib.hid (of_any s w)
  have H1 := Lib.hid h1; have HAL := Lib.hid hal; have HC := Lib.hid hc; have HM := Lib.hid hm; have HND := Lib.hid hnd
  obtain ⟨I, hI⟩ : ∃ I, idxR (ofR s) c.rnd 0 = I := ⟨_, rfl⟩
  have HI := Lib.hid hI
  rw [hI] at P
  clear h h1 hal hc hI hm hnd
  go_enter Try.func47, Try.ntmps47
  go_wp2_with fail
  refine Q.out.mono ?_
  rintro e w1 ⟨rfl, rfl⟩
  dsimp only
  clear c0 c1
  go_wp2_with fail
  refine P.out.mono ?_
  rintro e w2 ⟨rfl, h2⟩
  dsimp only
  have H2 := Lib.hid (H1.out.below h2)
  have HB2 : Hid (But (XLock lb lab i) w w2) := (HAL.out.trans (But.of_below h2)).nob
  clear h2 P Q H1 HAL
  go_upto_if 26 with fail
  go_cut [7] (fun v wx => ∃ (A : List CRow) (ts : List Int) (C : List CRow), v = .int .i64 (A.length : Int) ∧ MidK lb lab i c cs s t w A ts C wx)
  case first =>
    rcases idxR_split (ofR s) c.rnd 0 with ⟨e, hno⟩ | ⟨A, r, C, hL, e, hr, hA⟩
    · have hI := HI.out.symm.trans e
      have t1 : I < 0 := by omega
      obtain ⟨_, _, _, c3⟩ := H2.out.cell
      have f3 := H2.out.free (4 * i + 3)
      obtain ⟨A0, cap, hrv, -⟩ := H2.out.rnd.slice
      have c3l := c3
      rw [hrv] at c3l
      obtain ⟨n, hn⟩ : ∃ n, c.rnd.length = n := ⟨_, rfl⟩
      have HRV := Lib.hid hrv; have HN := Lib.hid hn; have HNO := Lib.hid hno
      rw [hn] at c3l
      clear hI e hno hrv hn c3
      go_wp2_with (at_builtin; refine haltC ?_)
      refine Lib.hid ?_
      have hal2 : But Nob w2 (w2.alloc (.cells #[.int .i64 s, .slice none 0 0] 105)) := (But.refl _ _).alloc _
      have H3 := Lib.hid (H2.out.nob hal2)
      have hb := Blk.new w2 105 #[.int .i64 s, .slice none 0 0]
      obtain ⟨v', w3, lab', hrun, hr3, hb3, hu3, hf3⟩ := app_rnd_run H3.out.rnd w2.heap.size s (.slice none 0 0) [] (hb.cell 0) (hb.cell 1) ⟨cutR_nil 0 _, fun k ⟨_, _, _, e⟩ => by cases e⟩ (by omega) H3.out.fre 87
      rw [HRV.out, HN.out] at hrun
      refine list_app rfl (.tmp 36) (.tmp 39) 87 rfl rfl rfl hrun ?_
      obtain ⟨A1, cap1, hv', -⟩ := hr3.slice
      generalize (c.rnd ++ [(s, [])]).length = n1 at hv'
      subst hv'
      have hlb : ¬ lab lb = .round i := by rw [H2.out.own]; intro q; cases q
      have hk3 := H3.out.blk.but hb3 hlb
      have d3 := hk3.cell (4 * i + 3)
      rw [H2.out.val.c3] at d3
      have g3 := hk3.free (4 * i + 3)
      have HK3 := Lib.hid hk3; have HR3 := Lib.hid hr3; have HU3 := Lib.hid hu3; have HF3 := Lib.hid hf3
      have HB3 : Hid (But (XLock lb lab i) w w3) := (HB2.out.trans hal2.nob).trans (hb3.mono fun k _ q => .inr (by rw [q]; exact rfl))
      have HSZ : Hid (w.heap.size ≤ w2.heap.size) := HB2.out.size
      clear hrun hr3 hb3 hu3 hf3 hk3 hb hlb c3l f3
      go_wp2_with fail
      go_meet
      have hb4 : But (fun k => k = lb) w3 (w3.setCell ⟨lb, 4 * i + 3, none⟩ (.slice A1 n1 cap1)) := (But.refl (fun k => k = lb) _).set ⟨lb, 4 * i + 3, none⟩ _ (.inl rfl)
      have hown' : lab' lb = .locks := (HU3.out.old lb H3.out.blk.lt).trans H3.out.own
      have hup : LabUp lab lab' i w := ⟨fun k hk => HU3.out.old k (Nat.lt_of_lt_of_le hk (Nat.le_trans HSZ.out hal2.size)), fun k hk => by
        by_cases q : k < (w2.alloc (.cells #[.int .i64 s, .slice none 0 0] 105)).heap.size
        · exact .inr (.inr (HU3.out.old k q))
        · exact HU3.out.new k (by omega)⟩
      refine ⟨c.rnd, [], [], by rw [HN.out], ⟨⟨lab', _, .slice A1 n1 cap1, ⟨HK3.out.set_ (4 * i + 3) _, (lockV_rnd H3.out.val _).rnd_ _, ?_, hown', fun k q => HF3.out k (Nat.le_trans hb4.size q)⟩, OutC.set_ (d := 3) (by omega) _, hup⟩, HB3.out.trans (hb4.mono fun k _ q => .inl q), ?_, ⟨by simp, by simp; omega⟩, fun q hq => ?_⟩⟩
      · exact HR3.out.but hb4 (fun k q e => by subst e; rw [hown'] at q; exact q) (fun _ _ => rfl)
      · rw [addR_no HNO.out]; rfl
      · have := HNO.out q (by simpa using hq)
        simpa [ofR] using this
    · have hI := HI.out.symm.trans e
      have t1 : ¬ I < 0 := by omega
      have HII := Lib.hid hI
      have hrs : r.1 = s := by simpa [ofR] using hr
      have HL := Lib.hid hL; have HA := Lib.hid hA
      clear hI e hL hr hA
      go_wp2_with fail
      go_meet
      obtain ⟨s', ts⟩ := r
      obtain rfl : s' = s := hrs
      refine ⟨A, ts, C, by rw [HII.out]; simp, ⟨⟨lab, cs, rv, ?_, OutC.refl _ _, LabUp.refl _ _ _⟩, HB2.out, ?_, ⟨?_, ?_⟩, ?_⟩⟩
      · rw [← HL.out]; exact H2.out
      · rw [HL.out, addR_at HA.out rfl]
      · have h9 : ts.length ≤ 900 := HM.out (s', ts) (by rw [HL.out]; simp)
        omega
      · rw [HL.out] at hl; simp at hl; omega
      · have h9 := HND.out
        rw [HL.out] at h9
        exact nodup_ne h9
  case rest =>
    obtain ⟨A, ts, C, rfl, hmid⟩ := hcut
    rename World => w3
    clear HB2
    obtain ⟨⟨lab3, cs3, rv3, h3, ho3, hu3⟩, hb3, hadd, ⟨hl1, hl2⟩, hne⟩ := hmid
    have hr3 := h3.rnd
    obtain ⟨g, cap, rcs, rfl, hn, hg, hk, hs, hrows⟩ := hr3.some_ (by simp)
    obtain ⟨r1, tv, r2, r3⟩ := hrows A.length (s, ts) (by simp)
    obtain ⟨a, ha⟩ : ∃ a, A.length = a := ⟨_, rfl⟩
    obtain ⟨n, hnn⟩ : ∃ n, (A ++ (s, ts) :: C).length = n := ⟨_, rfl⟩
    have hn2 : n = a + C.length + 1 := by rw [← hnn, ← ha]; simp; omega
    have han : a < n := by omega
    have hn1000 : n ≤ 1001 := by omega
    obtain ⟨tA, tcap, htv, -⟩ := r3.cut.slice
    generalize ts.length = tl at htv
    subst htv
    rw [ha] at r2 r1
    have c3 := h3.cell.2.2.2
    simp only at c3 hn
    rw [hnn] at c3 hn
    have rt : w3.cell? ⟨g, a * 2 + 1, none⟩ = some (.slice tA tl tcap) := by rw [hk.cell, Nat.mul_comm]; exact r2
    have f1 := hk.free (a * 2 + 1)
    have a0 : (0 : Int) ≤ (a : Int) := by omega
    have a1 : (a : Int) < (n : Int) := by omega
    rw [ha]
    have hd : But Nob w3 w3.drew := (But.refl _ _).drew
    have hal3 : But Nob w3.drew (w3.drew.alloc (.cells #[.int .i64 t] 3)) := (But.refl _ _).alloc _
    have hnn3 := hd.trans hal3
    have ht3 : TaskM (w3.drew.alloc (.cells #[.int .i64 t] 3)) lab3 i s (.slice tA tl tcap) ts := r3.but hnn3 (fun _ _ q => q) (fun _ _ => rfl)
    obtain ⟨v', w4, lab4, hrun, ht4, hb4, hu4, hf4⟩ := app_task_run ht3 w3.heap.size t ((Blk.new w3.drew 3 #[.int .i64 t]).cell 0) (by omega) (fun k q => h3.fre k (Nat.le_trans hnn3.size q)) 55
    obtain ⟨A1, cap1, hv', -⟩ := ht4.cut.slice
    generalize (ts ++ [t]).length = n1 at hv'
    subst hv'
    have hlk : ∀ s, lab3 lb ≠ .tasks i s := fun s q => by rw [h3.own] at q; cases q
    have hgk : ∀ s, lab3 g ≠ .tasks i s := fun s q => by rw [hg] at q; cases q
    have k4 : Blk w4 lb 89 cs3 := (h3.blk.but hnn3 id).but hb4 (hlk s)
    have g4 : Blk w4 g 105 rcs := (hk.but hnn3 id).but hb4 (hgk s)
    have y0 : w3.drew.cell? ⟨lb, 4 * i + 3, none⟩ = some (.slice (some ⟨g, 0, none⟩) n cap) := c3
    have y1 : w3.drew.cell? ⟨g, a * 2 + 1, none⟩ = some (.slice tA tl tcap) := rt
    have z0 : w4.cell? ⟨lb, 4 * i + 3, none⟩ = some (.slice (some ⟨g, 0, none⟩) n cap) := (k4.cell _).trans ((h3.blk.cell _).symm.trans c3)
    have z1 : w4.cell? ⟨g, a * 2 + 1, none⟩ = some (.slice tA tl tcap) := (g4.cell _).trans ((hk.cell _).symm.trans rt)
    have f4 := g4.free (a * 2 + 1)
    have x0 : (w3.drew.alloc (.cells #[.int .i64 t] 3)).cell? ⟨lb, 4 * i + 3, none⟩ = some (.slice (some ⟨g, 0, none⟩) n cap) := ((h3.blk.but hnn3 id).cell _).trans ((h3.blk.cell _).symm.trans c3)
    have x1 : (w3.drew.alloc (.cells #[.int .i64 t] 3)).cell? ⟨g, a * 2 + 1, none⟩ = some (.slice tA tl tcap) := ((hk.but hnn3 id).cell _).trans ((hk.cell _).symm.trans rt)
    have Y := Lib.hid (And.intro y0 y1); have X := Lib.hid (And.intro x0 x1); have Z := Lib.hid (And.intro z0 z1)
    have HRUN := Lib.hid hrun; have HT4 := Lib.hid ht4; have HB4 := Lib.hid hb4; have HU4 := Lib.hid hu4; have HF4 := Lib.hid hf4; have K4 := Lib.hid k4; have G4 := Lib.hid g4; have HNN3 := Lib.hid hnn3
    have H3 := Lib.hid h3; have HO3 := Lib.hid ho3; have HU3 := Lib.hid hu3; have HB3 := Lib.hid hb3; have HADD := Lib.hid hadd; have HNE := Lib.hid hne; have HROW := Lib.hid hrows; have HG := Lib.hid hg; have HS := Lib.hid hs; have HA := Lib.hid ha; have HNN := Lib.hid hnn; have HK := Lib.hid hk
    clear hne hrun ht4 hb4 hu4 hf4 k4 g4 hnn3 h3 ho3 hu3 hb3 hadd hrows hg hs ha hnn hk y0 y1 x0 x1 z0 z1 hlk hgk r1 r2 r3 ht3 hd hal3 c3 rt hr3 f1 hn2
    go_upto_region 8 with fail
    obtain ⟨AV, hAV⟩ : ∃ f : (Nat → Value) → Act, f = fun q => { tmps := #[.pointer (some ⟨lb, 4 * i, none⟩), .int .i64 t, .int .i64 s, undef, undef, undef, .bool false, .int .i64 ↑a, u8, u9, u10, u11, u12, u13, u14, u15, u16, u17, u18, u19, u20, u21, u22, u23, u24, u25, u26, u27, u28, u29, u30, u31, u32, u33, u34, u35, u36, u37, u38, u39, u40, u41, u42, (q 43), (q 44), (q 45), (q 46), (q 47), (q 48), (q 49), (q 50), (q 51), (q 52), (q 53), (q 54), (q 55), (q 56), (q 57), (q 58), (q 59), (q 60)], defers := [] } := ⟨_, rfl⟩
    obtain ⟨val, hval⟩ : ∃ f : Nat → Value, f = fun o => [(.pointer (some ⟨lb, 4 * i, none⟩) : Value), (.pointer (some ⟨lb, 4 * i, none⟩) : Value), (.pointer (some ⟨lb, 4 * i + 3, none⟩) : Value), (.slice (some ⟨g, 0, none⟩) n cap : Value), (.int .i64 (a : Int) : Value), (.pointer (some ⟨lb, 4 * i, none⟩) : Value), (.pointer (some ⟨lb, 4 * i, none⟩) : Value), (.pointer (some ⟨lb, 4 * i + 3, none⟩) : Value), (.slice (some ⟨g, 0, none⟩) n cap : Value), (.int .i64 (a : Int) : Value), (.pointer (some ⟨g, a * 2, none⟩) : Value), (.pointer (some ⟨g, a * 2 + 1, none⟩) : Value), (.slice tA tl tcap : Value), (.int .i64 t : Value), (.slice (some ⟨w3.heap.size, 0, none⟩) 1 1 : Value), (.slice A1 n1 cap1 : Value), (.pointer (some ⟨g, a * 2, none⟩) : Value), (.pointer (some ⟨g, a * 2 + 1, none⟩) : Value), (undef : Value)].getD o undef := ⟨_, rfl⟩
    obtain ⟨slot, hslot⟩ : ∃ f : Nat → Nat, f = fun o => [43, 44, 45, 46, 47, 48, 49, 50, 51, 52, 53, 54, 55, 56, 57, 58, 59, 60, 999].getD o 0 := ⟨_, rfl⟩
    have hinj : ∀ o, o < 19 → ∀ p, p < 19 → slot o = slot p → o = p := by subst hslot; decide
    refine wp_region_steps2 (J := fun L aa W => ∃ q, aa = AV q ∧ DJ 19 slot val (WI3 19 14 15 18 (w3.drew) (w3.drew.alloc (.cells #[.int .i64 t] 3)) (w4) (w4.setCell ⟨g, a * 2 + 1, none⟩ (.slice A1 n1 cap1))) L q W) (by kernel_rfl) ?_ ?_ ?_ (fun L aa W h => h.elim fun q h => h.2.sz) (by kernel_rfl)
    · refine ⟨fun s => [(43, u43), (44, u44), (45, u45), (46, u46), (47, u47), (48, u48), (49, u49), (50, u50), (51, u51), (52, u52), (53, u53), (54, u54), (55, u55), (56, u56), (57, u57), (58, u58), (59, u59), (60, u60)].lookup s |>.getD undef, by subst hAV; rfl, ⟨by simp, fun o _ h => absurd h (onL_none _ _), WI3.start⟩⟩
    · intro L aa W ⟨q, haa, hJ⟩ hcl ix o ho hi K' hK
      have hi19 : ix < 19 := ready_lt hi
      have hno := ready_not hi
      have hsz := hJ.sz
      subst haa
      subst hval
      subst hslot
      subst hAV
      rcases (by omega : ix = 0 ∨ ix = 1 ∨ ix = 2 ∨ ix = 3 ∨ ix = 4 ∨ ix = 5 ∨ ix = 6 ∨ ix = 7 ∨ ix = 8 ∨ ix = 9 ∨ ix = 10 ∨ ix = 11 ∨ ix = 12 ∨ ix = 13 ∨ ix = 14 ∨ ix = 15 ∨ ix = 16 ∨ ix = 17 ∨ ix = 18) with rfl | rfl | rfl | rfl | rfl | rfl | rfl | rfl | rfl | rfl | rfl | rfl | rfl | rfl | rfl | rfl | rfl | rfl | rfl
      · cases ho
        go_simp
        exact hK _ _ ⟨updV q 43 (.pointer (some ⟨lb, 4 * i, none⟩) : Value), by simp [updV], hJ.step hinj (o := 0) (by omega) (hJ.wi.pure (by omega) hno (by decide) (by decide) (by decide))⟩
      · cases ho
        have e43 : q 43 = (.pointer (some ⟨lb, 4 * i, none⟩) : Value) := hJ.pv 0 (by omega) (ready_dep hi 0 (by kernel_rfl))
        simp only [e43]
        go_simp
        exact hK _ _ ⟨updV q 44 (.pointer (some ⟨lb, 4 * i, none⟩) : Value), by simp [updV, e43], hJ.step hinj (o := 1) (by omega) (hJ.wi.pure (by omega) hno (by decide) (by decide) (by decide))⟩
      · cases ho
        have e44 : q 44 = (.pointer (some ⟨lb, 4 * i, none⟩) : Value) := hJ.pv 1 (by omega) (ready_dep hi 1 (by kernel_rfl))
        simp only [e44]
        go_simp
        exact hK _ _ ⟨updV q 45 (.pointer (some ⟨lb, 4 * i + 3, none⟩) : Value), by simp [updV, e44], hJ.step hinj (o := 2) (by omega) (hJ.wi.pure (by omega) hno (by decide) (by decide) (by decide))⟩
      · cases ho
        have e45 : q 45 = (.pointer (some ⟨lb, 4 * i + 3, none⟩) : Value) := hJ.pv 2 (by omega) (ready_dep hi 2 (by kernel_rfl))
        have hc := hJ.wi.here (S := fun W => W.cell? ⟨lb, 4 * i + 3, none⟩ = some (.slice (some ⟨g, 0, none⟩) n cap) ∧ W.cell? ⟨g, a * 2 + 1, none⟩ = some (.slice tA tl tcap)) (by omega) hno Y.out X.out Z.out
        refine step_load_rows rfl _ rfl ⟨lb, 4 * i + 3, none⟩ _ (by simp [Act.eval, e45]) hc.1 ?_
        exact hK _ _ ⟨updV q 46 (.slice (some ⟨g, 0, none⟩) n cap : Value), by simp [updV, Act.put, e45], hJ.step hinj (o := 3) (by omega) (hJ.wi.pure (by omega) hno (by decide) (by decide) (by decide))⟩
      · cases ho
        go_simp
        exact hK _ _ ⟨updV q 47 (.int .i64 (a : Int) : Value), by simp [updV], hJ.step hinj (o := 4) (by omega) (hJ.wi.pure (by omega) hno (by decide) (by decide) (by decide))⟩
      · cases ho
        go_simp
        exact hK _ _ ⟨updV q 48 (.pointer (some ⟨lb, 4 * i, none⟩) : Value), by simp [updV], hJ.step hinj (o := 5) (by omega) (hJ.wi.pure (by omega) hno (by decide) (by decide) (by decide))⟩
      · cases ho
        have e48 : q 48 = (.pointer (some ⟨lb, 4 * i, none⟩) : Value) := hJ.pv 5 (by omega) (ready_dep hi 5 (by kernel_rfl))
        simp only [e48]
        go_simp
        exact hK _ _ ⟨updV q 49 (.pointer (some ⟨lb, 4 * i, none⟩) : Value), by simp [updV, e48], hJ.step hinj (o := 6) (by omega) (hJ.wi.pure (by omega) hno (by decide) (by decide) (by decide))⟩
      · cases ho
        have e49 : q 49 = (.pointer (some ⟨lb, 4 * i, none⟩) : Value) := hJ.pv 6 (by omega) (ready_dep hi 6 (by kernel_rfl))
        simp only [e49]
        go_simp
        exact hK _ _ ⟨updV q 50 (.pointer (some ⟨lb, 4 * i + 3, none⟩) : Value), by simp [updV, e49], hJ.step hinj (o := 7) (by omega) (hJ.wi.pure (by omega) hno (by decide) (by decide) (by decide))⟩
      · cases ho
        have e50 : q 50 = (.pointer (some ⟨lb, 4 * i + 3, none⟩) : Value) := hJ.pv 7 (by omega) (ready_dep hi 7 (by kernel_rfl))
        have hc := hJ.wi.here (S := fun W => W.cell? ⟨lb, 4 * i + 3, none⟩ = some (.slice (some ⟨g, 0, none⟩) n cap) ∧ W.cell? ⟨g, a * 2 + 1, none⟩ = some (.slice tA tl tcap)) (by omega) hno Y.out X.out Z.out
        refine step_load_rows rfl _ rfl ⟨lb, 4 * i + 3, none⟩ _ (by simp [Act.eval, e50]) hc.1 ?_
        exact hK _ _ ⟨updV q 51 (.slice (some ⟨g, 0, none⟩) n cap : Value), by simp [updV, Act.put, e50], hJ.step hinj (o := 8) (by omega) (hJ.wi.pure (by omega) hno (by decide) (by decide) (by decide))⟩
      · cases ho
        go_simp
        exact hK _ _ ⟨updV q 52 (.int .i64 (a : Int) : Value), by simp [updV], hJ.step hinj (o := 9) (by omega) (hJ.wi.pure (by omega) hno (by decide) (by decide) (by decide))⟩
      · cases ho
        have e51 : q 51 = (.slice (some ⟨g, 0, none⟩) n cap : Value) := hJ.pv 8 (by omega) (ready_dep hi 8 (by kernel_rfl))
        have e52 : q 52 = (.int .i64 (a : Int) : Value) := hJ.pv 9 (by omega) (ready_dep hi 9 (by kernel_rfl))
        simp only [e51, e52]
        go_simp
        exact hK _ _ ⟨updV q 53 (.pointer (some ⟨g, a * 2, none⟩) : Value), by simp [updV, e51, e52], hJ.step hinj (o := 10) (by omega) (hJ.wi.pure (by omega) hno (by decide) (by decide) (by decide))⟩
      · cases ho
        have e53 : q 53 = (.pointer (some ⟨g, a * 2, none⟩) : Value) := hJ.pv 10 (by omega) (ready_dep hi 10 (by kernel_rfl))
        simp only [e53]
        go_simp
        exact hK _ _ ⟨updV q 54 (.pointer (some ⟨g, a * 2 + 1, none⟩) : Value), by simp [updV, e53], hJ.step hinj (o := 11) (by omega) (hJ.wi.pure (by omega) hno (by decide) (by decide) (by decide))⟩
      · cases ho
        have e54 : q 54 = (.pointer (some ⟨g, a * 2 + 1, none⟩) : Value) := hJ.pv 11 (by omega) (ready_dep hi 11 (by kernel_rfl))
        have hc := hJ.wi.here (S := fun W => W.cell? ⟨lb, 4 * i + 3, none⟩ = some (.slice (some ⟨g, 0, none⟩) n cap) ∧ W.cell? ⟨g, a * 2 + 1, none⟩ = some (.slice tA tl tcap)) (by omega) hno Y.out X.out Z.out
        refine step_load_ints rfl _ rfl ⟨g, a * 2 + 1, none⟩ _ (by simp [Act.eval, e54]) hc.2 ?_
        exact hK _ _ ⟨updV q 55 (.slice tA tl tcap : Value), by simp [updV, Act.put, e54], hJ.step hinj (o := 12) (by omega) (hJ.wi.pure (by omega) hno (by decide) (by decide) (by decide))⟩
      · cases ho
        go_simp
        exact hK _ _ ⟨updV q 56 (.int .i64 t : Value), by simp [updV], hJ.step hinj (o := 13) (by omega) (hJ.wi.pure (by omega) hno (by decide) (by decide) (by decide))⟩
      · cases ho
        have e56 : q 56 = (.int .i64 t : Value) := hJ.pv 13 (by omega) (ready_dep hi 13 (by kernel_rfl))
        obtain ⟨rfl, hwi⟩ := hJ.wi.one (by omega) (by omega) hno (by decide) (by decide)
        simp only [e56]
        go_simp
        exact hK _ _ ⟨updV q 57 (.slice (some ⟨w3.heap.size, 0, none⟩) 1 1 : Value), by simp [updV, e56], hJ.step hinj (o := 14) (by omega) hwi⟩
      · cases ho
        have e55 : q 55 = (.slice tA tl tcap : Value) := hJ.pv 12 (by omega) (ready_dep hi 12 (by kernel_rfl))
        have e57 : q 57 = (.slice (some ⟨w3.heap.size, 0, none⟩) 1 1 : Value) := hJ.pv 14 (by omega) (ready_dep hi 14 (by kernel_rfl))
        obtain ⟨rfl, hwi⟩ := hJ.wi.two (by omega) (by omega) hno (ready_dep hi 14 (by kernel_rfl)) (by decide)
        refine step_app rfl (.tmp 55) (.tmp 57) 55 rfl (by simp [Act.eval, e55, e57]) (by simp [Act.eval, e55, e57]) HRUN.out ?_
        exact hK _ _ ⟨updV q 58 (.slice A1 n1 cap1 : Value), by simp [updV, Act.put, e55, e57], hJ.step hinj (o := 15) (by omega) hwi⟩
      · cases ho
        have e46 : q 46 = (.slice (some ⟨g, 0, none⟩) n cap : Value) := hJ.pv 3 (by omega) (ready_dep hi 3 (by kernel_rfl))
        have e47 : q 47 = (.int .i64 (a : Int) : Value) := hJ.pv 4 (by omega) (ready_dep hi 4 (by kernel_rfl))
        simp only [e46, e47]
        go_simp
        exact hK _ _ ⟨updV q 59 (.pointer (some ⟨g, a * 2, none⟩) : Value), by simp [updV, e46, e47], hJ.step hinj (o := 16) (by omega) (hJ.wi.pure (by omega) hno (by decide) (by decide) (by decide))⟩
      · cases ho
        have e59 : q 59 = (.pointer (some ⟨g, a * 2, none⟩) : Value) := hJ.pv 16 (by omega) (ready_dep hi 16 (by kernel_rfl))
        simp only [e59]
        go_simp
        exact hK _ _ ⟨updV q 60 (.pointer (some ⟨g, a * 2 + 1, none⟩) : Value), by simp [updV, e59], hJ.step hinj (o := 17) (by omega) (hJ.wi.pure (by omega) hno (by decide) (by decide) (by decide))⟩
      · cases ho
        have e58 : q 58 = (.slice A1 n1 cap1 : Value) := hJ.pv 15 (by omega) (ready_dep hi 15 (by kernel_rfl))
        have e60 : q 60 = (.pointer (some ⟨g, a * 2 + 1, none⟩) : Value) := hJ.pv 17 (by omega) (ready_dep hi 17 (by kernel_rfl))
        have hds := ready_deps hi [0, 1, 2, 3, 4, 5, 6, 7, 8, 9, 10, 11, 12, 13, 14, 15, 17] (by kernel_rfl)
        have o0 := hds 0 (by simp)
        have o1 := hds 1 (by simp)
        have o2 := hds 2 (by simp)
        have o3 := hds 3 (by simp)
        have o4 := hds 4 (by simp)
        have o5 := hds 5 (by simp)
        have o6 := hds 6 (by simp)
        have o7 := hds 7 (by simp)
        have o8 := hds 8 (by simp)
        have o9 := hds 9 (by simp)
        have o10 := hds 10 (by simp)
        have o11 := hds 11 (by simp)
        have o12 := hds 12 (by simp)
        have o13 := hds 13 (by simp)
        have o14 := hds 14 (by simp)
        have o15 := hds 15 (by simp)
        have o17 := hds 17 (by simp)
        have o16 := clL_dep hcl 17 16 (by kernel_rfl) o17
        have hall : ∀ k, k < 19 → k ≠ 18 → OnL L k := fun k hk hne => by
          rcases (by omega : k = 0 ∨ k = 1 ∨ k = 2 ∨ k = 3 ∨ k = 4 ∨ k = 5 ∨ k = 6 ∨ k = 7 ∨ k = 8 ∨ k = 9 ∨ k = 10 ∨ k = 11 ∨ k = 12 ∨ k = 13 ∨ k = 14 ∨ k = 15 ∨ k = 16 ∨ k = 17) with rfl | rfl | rfl | rfl | rfl | rfl | rfl | rfl | rfl | rfl | rfl | rfl | rfl | rfl | rfl | rfl | rfl | rfl
          all_goals assumption
        obtain ⟨rfl, hwi⟩ := hJ.wi.three (by omega) hno hall (by omega) (by omega) (by decide) (by decide)
        have z1 := Z.out.2
        simp only [e58, e60]
        go_simp
        exact hK _ _ ⟨updV q 999 (undef : Value), by simp [updV, e58, e60], hJ.step hinj (o := 18) (by omega) hwi⟩
    · intro L aa W ⟨q, haa, hJ⟩ hall
      have hW := hJ.wi.w3 (hall 18 (by show 18 < 19; omega))
      subst hW
      subst haa
      subst hAV
      dsimp only
      go_wp2_with fail
      go_ret
      have hgl : g ≠ lb := fun e => by have := HG.out; rw [e, H3.out.own] at this; cases this
      have hb5 : But (fun k => lab3 k = .tasks i s ∨ k = g) w3 (w4.setCell ⟨g, a * 2 + 1, none⟩ (.slice A1 n1 cap1)) :=
        ((HNN3.out.nob.trans (HB4.out.mono fun k _ q => .inl q)).set ⟨g, a * 2 + 1, none⟩ _ (.inl (.inr rfl)))
      have hbg : But (fun k => k = g) w4 (w4.setCell ⟨g, a * 2 + 1, none⟩ (.slice A1 n1 cap1)) := (But.refl (fun k => k = g) _).set ⟨g, a * 2 + 1, none⟩ _ (.inl rfl)
      have hold : ∀ k, k < w3.heap.size → lab4 k = lab3 k := fun k hk => HU4.out.old k (Nat.lt_of_lt_of_le hk HNN3.out.size)
      have ht5 : TaskM (w4.setCell ⟨g, a * 2 + 1, none⟩ (.slice A1 n1 cap1)) lab4 i s (.slice A1 n1 cap1) (ts ++ [t]) := HT4.out.but hbg (fun k q e => by
        subst e; rw [hold k HK.out.lt, HG.out] at q; cases q) (fun _ _ => rfl)
      have hrow5 := rows_set2 (A := A) (C := C) (r := (s, ts)) (p := a * 2 + 1) (by rw [HA.out, Nat.mul_comm]) HROW.out (fun q hq k hk e => by
        rcases e with e | e
        · rw [hk] at e; simp only [LabC.tasks.injEq, true_and] at e; exact HNE.out q hq e
        · subst e; rw [HG.out] at hk; cases hk) hb5 hold (by have := HS.out; omega) ht5
      have hup : LabUp lab lab4 i w := ⟨fun k hk => (hold k (Nat.lt_of_lt_of_le hk HB3.out.size)).trans (HU3.out.old k hk), fun k hk => by
        by_cases q : k < w3.heap.size
        · rw [hold k q]; exact HU3.out.new k hk
        · by_cases q2 : k < (w3.drew.alloc (.cells #[.int .i64 t] 3)).heap.size
          · rw [HU4.out.old k q2]; exact HU3.out.new k hk
          · rcases HU4.out.new k (by omega) with r | r | r
            · exact .inl r
            · exact .inr (.inl r)
            · rw [r]; exact HU3.out.new k hk⟩
      refine ⟨rfl, lab4, ⟨cs3, .slice (some ⟨g, 0, none⟩) n cap, ⟨K4.out.far (p := ⟨g, a * 2 + 1, none⟩) (fun e => hgl e.symm) _, ?_, ?_, (hold lb H3.out.blk.lt).trans H3.out.own, fun k q => HF4.out k (Nat.le_trans hbg.size q)⟩, HO3.out⟩, ?_, hup⟩
      · have hv := H3.out.val
        try dsimp only at hv
        try rw [HNN.out] at hv
        unfold takeC; rw [if_neg HC.out]
        exact hv.rnd_ _
      · unfold takeC; rw [if_neg HC.out, ← HADD.out]
        refine .inr ⟨g, cap, _, ?_, ?_, (hold g HK.out.lt).trans HG.out, G4.out.set_ _ _, by simpa using HS.out, hrow5⟩
        · have := HNN.out; simp at this ⊢; omega
        · have := HNN.out; simp at this ⊢; omega
      · exact xlock_up HB3.out HU3.out (hb5.mono fun k _ q => by
          rcases q with q | q
          · exact .inr (by rw [q]; exact rfl)
          · exact .inr (by rw [q, HG.out]; exact rfl))
end
end Go.Proofs.Ytdomgipbadimmaa
