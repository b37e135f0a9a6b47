/- The first of a row has the lock: tell (layer 14). -/
import Derived.Test.YtdomgipbadimmaaCh
import Derived.Test.YtdomgipbadimmaaCd
import Derived.Deep.RegionHeld3
namespace Go.Proofs.Ytdomgipbadimmaa
open Go.RowKit
set_option maxRecDepth 100000

/-- The other locks' cells are as they were. -/
structure OutC (i : Nat) (cs cs' : Array Value) : Prop where
  size : cs'.size = cs.size
  out : ∀ o, o < 4 * i ∨ 4 * i + 4 ≤ o → cs'[o]? = cs[o]?
theorem OutC.refl (i : Nat) (cs : Array Value) : OutC i cs cs := ⟨rfl, fun _ _ => rfl⟩
theorem OutC.trans {i : Nat} {a b c : Array Value} (h : OutC i a b) (k : OutC i b c) : OutC i a c := ⟨k.size.trans h.size, fun o ho => (k.out o ho).trans (h.out o ho)⟩
theorem OutC.set_ {i : Nat} {cs : Array Value} {d : Nat} (hd : d < 4) (v : Value) : OutC i cs (cs.setIfInBounds (4 * i + d) v) :=
  ⟨by simp, fun o ho => by rw [Array.getElem?_setIfInBounds, if_neg (by omega)]⟩
/-- What a call at lock i leaves. -/
structure TurnC (lb : Nat) (lab lab' : Nat → LabC) (i : Nat) (c : Coh) (cs : Array Value) (w w' : World) : Prop where
  lock : ∃ cs' rv', LockM w' lb lab' i c cs' rv' ∧ OutC i cs cs'
  but : But (XLock lb lab i) w w'
  up : LabUp lab lab' i w
theorem lockV_own {cs : Array Value} {i : Nat} {c : Coh} {rv : Value} (h : LockV cs i c rv) (x : Int) (L : List CRow) : LockV (cs.setIfInBounds (4 * i) (.int .i64 x)) i { c with own := x, rnd := L } rv := by
  have hl := h.lt
  refine ⟨?_, ?_, ?_, ?_⟩
  · rw [Array.getElem?_setIfInBounds, if_pos rfl, if_pos (by omega)]
  · rw [Array.getElem?_setIfInBounds, if_neg (by omega)]; exact h.c1
  · rw [Array.getElem?_setIfInBounds, if_neg (by omega)]; exact h.c2
  · rw [Array.getElem?_setIfInBounds, if_neg (by omega)]; exact h.c3
theorem lockV_rnd {cs : Array Value} {i : Nat} {c : Coh} {rv : Value} (h : LockV cs i c rv) (v : Value) : LockV (cs.setIfInBounds (4 * i + 3) v) i c v := by
  have hl := h.lt
  refine ⟨?_, ?_, ?_, ?_⟩
  · rw [Array.getElem?_setIfInBounds, if_neg (by omega)]; exact h.c0
  · rw [Array.getElem?_setIfInBounds, if_neg (by omega)]; exact h.c1
  · rw [Array.getElem?_setIfInBounds, if_neg (by omega)]; exact h.c2
  · rw [Array.getElem?_setIfInBounds, if_pos rfl, if_pos (by omega)]
theorem rows_set {X : Nat → Prop} {w w' : World} {lab : Nat → LabC} {i : Nat} {rcs : Array Value} {A C : List CRow} {r : CRow} {tv : Value} {ts : List Int} {p : Nat} (hp : p = 2 * A.length + 1) (h : RowsM w lab i rcs (A ++ r :: C)) (hX : ∀ k s, lab k = .tasks i s → ¬ X k) (hb : But X w w') (hs : p < rcs.size) (ht : TaskM w' lab i r.1 tv ts) :
    RowsM w' lab i (rcs.setIfInBounds p tv) (A ++ (r.1, ts) :: C) := by
  subst hp
  intro j q hq
  by_cases e : j = A.length
  · subst e
    rw [List.getElem?_append_right (Nat.le_refl _), Nat.sub_self] at hq
    cases hq
    obtain ⟨h1, -⟩ := h A.length r (by rw [List.getElem?_append_right (Nat.le_refl _), Nat.sub_self]; rfl)
    exact ⟨by rw [Array.getElem?_setIfInBounds, if_neg (by omega)]; exact h1, tv, by rw [Array.getElem?_setIfInBounds, if_pos rfl, if_pos hs], ht⟩
  · have hq' : (A ++ r :: C)[j]? = some q := by
      by_cases l : j < A.length
      · rw [List.getElem?_append_left l] at hq ⊢; exact hq
      · rw [List.getElem?_append_right (by omega)] at hq ⊢
        rw [show j - A.length = (j - A.length - 1) + 1 by omega, List.getElem?_cons_succ] at hq ⊢
        exact hq
    obtain ⟨h1, tv', h2, h3⟩ := h j q hq'
    refine ⟨by rw [Array.getElem?_setIfInBounds, if_neg (by omega)]; exact h1, tv', by rw [Array.getElem?_setIfInBounds, if_neg (by omega)]; exact h2, h3.but hb (fun k hk => hX k _ hk) (fun _ _ => rfl)⟩
theorem two_st {w : World} {lb g : Nat} {T U : TypeId} {cs rcs : Array Value} (h1 : Blk w lb T cs) (h2 : Blk w g U rcs) (hne : g ≠ lb) (p q : Nat) (u v : Value) :
    Blk ((w.setCell ⟨lb, p, none⟩ u).setCell ⟨g, q, none⟩ v).drew lb T (cs.setIfInBounds p u) ∧ Blk ((w.setCell ⟨lb, p, none⟩ u).setCell ⟨g, q, none⟩ v).drew g U (rcs.setIfInBounds q v) ∧ But (fun k => k = lb ∨ k = g) w ((w.setCell ⟨lb, p, none⟩ u).setCell ⟨g, q, none⟩ v).drew :=
  ⟨(h1.set_ p u).far (p := ⟨g, q, none⟩) (fun e => hne e.symm) v, (h2.far (p := ⟨lb, p, none⟩) hne u).set_ q v, (((But.refl _ _).set ⟨lb, p, none⟩ u (.inl (.inl rfl))).set ⟨g, q, none⟩ v (.inl (.inr rfl))).drew⟩
section
variable {w : World} {lb : Nat} {lab : Nat → LabC} {i : Nat} {c : Coh} {cs : Array Value} {rv : Value}
set_option maxHeartbeats 8000000 in
theorem tell_any {A C : List CRow} {s x : Int} {ts : List Int} (h : LockM w lb lab i c cs rv) (hc : c.rnd = A ++ (s, x :: ts) :: C) (hl : ts.length ≤ 1000) (hrl : c.rnd.length ≤ 1000) :
    Calls Try.prog 69 #[.pointer (some ⟨lb, 4 * i, none⟩), .int .i64 (A.length : Int)] w fun e w' => e = .returned (.tuple #[]) ∧ TurnC lb lab lab i (tellC c A.length) cs w w' := by
  have hr := h.rnd
  rw [hc] at hr
  obtain ⟨g, cap, rcs, rfl, hn, hg, hk, hs, hrows⟩ := hr.some_ (by simp)
  obtain ⟨r1, tv, r2, r3⟩ := hrows A.length (s, x :: ts) (by rw [List.getElem?_append_right (Nat.le_refl _), Nat.sub_self]; rfl)
  obtain ⟨tb, tof, tc, rfl, htc, hx, hcut, hrb⟩ := r3.cut.cons
  have hlen : (A ++ (s, x :: ts) :: C).length = A.length + C.length + 1 := by simp; omega
  rw [hlen] at hn
  rw [hc, hlen] at hrl
  obtain ⟨a, ha⟩ : ∃ a, A.length = a := ⟨_, rfl⟩
  have hgl : g ≠ lb := fun e => by subst e; have := h.own; rw [hg] at this; cases this
  have hbl : tb ≠ lb := fun e => by subst e; have := h.own; rw [r3.lab _ hrb] at this; cases this
  have hbg : tb ≠ g := fun e => by subst e; rw [r3.lab _ hrb] at hg; cases hg
  obtain ⟨n, hnn⟩ : ∃ n, A.length + C.length + 1 = n := ⟨_, rfl⟩
  obtain ⟨m, hm⟩ : ∃ m, ts.length = m := ⟨_, rfl⟩
  rw [ha] at r1 r2
  obtain ⟨c0, -, -, c3⟩ := h.cell
  rw [hlen, hnn] at c3
  have f0 := h.blk.free (4 * i)
  have f1 := hk.free (a * 2 + 1)
  have rt : w.cell? ⟨g, a * 2 + 1, none⟩ = some (.slice (some ⟨tb, tof, none⟩) (m + 1) (tc + 1)) := by rw [hk.cell, Nat.mul_comm, ← hm]; exact r2
  have a0 : (0 : Int) ≤ (a : Int) := by omega
  have a1 : (a : Int) < (n : Int) := by omega
  have hn2 : n ≤ cap := by omega
  have han : a < n := by omega
  have hn1000 : n ≤ 1000 := by omega
  have a2 : (1 : Int) ≤ (m : Int) + 1 := by omega
  have a3 : ((m : Int) + 1 - 1).toNat = m := by omega
  have H := Lib.hid h; have HK := Lib.hid hk; have HROW := Lib.hid hrows; have HC := Lib.hid hc; have HG := Lib.hid hg; have HS := Lib.hid hs
  have HCUT := Lib.hid hcut; have HT := Lib.hid r3; have HRB := Lib.hid hrb; have HA := Lib.hid ha; have HNN := Lib.hid hnn; have HM := Lib.hid hm
  have hE : tc = 0 → CutR 0 (.slice (some ⟨tb, tof, none⟩) 0 0) ts w ∧ m = 0 := fun z => by
    subst z
    have hz : ts = [] := List.eq_nil_of_length_eq_zero (by omega)
    subst hz
    exact ⟨r3.cut.empty rfl, hm.symm⟩
  have HEE := Lib.hid hE
  rw [ha]
  clear h hk hrows hc hg hs hcut r3 hrb r1 r2 ha hnn hm hE hlen hr
  go_enter Try.func69, Try.ntmps69
  go_upto_region 1 with fail
  go_cut [] (fun wx => ∃ tv, Blk wx lb 89 (cs.setIfInBounds (4 * i) (.int .i64 x)) ∧ Blk wx g 105 (rcs.setIfInBounds (a * 2 + 1) tv) ∧ But (fun k => k = lb ∨ k = g) w wx ∧ CutR 0 tv ts wx ∧ (∀ k, RowB tv k → k = tb) ∧ ∃ A, ∃ cc, tv = .slice A m cc)
  case first =>
    by_cases z : tc = 0
    · obtain ⟨e1, e2⟩ := HEE.out z
      subst z
      subst e2
      have HE1 := Lib.hid e1
      clear e1
      go_region
      go_wp2_with fail
      go_meet
      obtain ⟨q1, q2, q3⟩ := two_st H.out.blk HK.out hgl (4 * i) (a * 2 + 1) (.int .i64 x) (.slice (some ⟨tb, tof, none⟩) 0 0)
      refine ⟨_, q1, q2, q3, HE1.out.but q3 (fun k hk e => ?_), fun k ⟨_, _, _, e⟩ => by cases e; rfl, _, _, rfl⟩
      obtain ⟨_, _, _, hk⟩ := hk
      cases hk
      rcases e with e | e
      · exact hbl e
      · exact hbg e
    · have z1 : (tc == 0) = false := by simpa using z
      have z2 : ¬ tc + 1 = 1 := by omega
      go_region
      go_wp2_with fail
      go_meet
      obtain ⟨q1, q2, q3⟩ := two_st H.out.blk HK.out hgl (4 * i) (a * 2 + 1) (.int .i64 x) (.slice (some ⟨tb, tof + 1, none⟩) m tc)
      have hcut := HCUT.out
      rw [HM.out] at hcut
      refine ⟨_, q1, q2, q3, hcut.but q3 (fun k hk e => ?_), fun k ⟨_, _, _, e⟩ => by cases e; rfl, _, _, rfl⟩
      obtain ⟨_, _, _, hk⟩ := hk
      cases hk
      rcases e with e | e
      · exact hbl e
      · exact hbg e
  case rest =>
    obtain ⟨tv, q1, q2, q3, q4, q5, A', cc, rfl⟩ := hcut
    rename World => w2
    have hlk : ∀ k s, lab k = .tasks i s → ¬ (k = lb ∨ k = g) := fun k s e q => by
      rcases q with q | q
      · subst q; rw [H.out.own] at e; cases e
      · subst q; rw [HG.out] at e; cases e
    have hrow2 : RowsM w2 lab i (rcs.setIfInBounds (a * 2 + 1) (.slice A' m cc)) (A ++ (s, ts) :: C) :=
      rows_set (r := (s, x :: ts)) (by rw [HA.out, Nat.mul_comm]) HROW.out hlk q3 (by have := HS.out; omega) ⟨q4, fun k hk => by rw [q5 k hk]; exact HT.out.lab tb HRB.out⟩
    have hv2 := lockV_own H.out.val x c.rnd
    have c3 : w2.cell? ⟨lb, 4 * i + 3, none⟩ = some (.slice (some ⟨g, 0, none⟩) n cap) := by
      rw [q1.cell]; have := hv2.c3; rwa [show (A ++ (s, x :: ts) :: C).length = n by rw [← HNN.out]; simp; omega] at this
    have rt2 : w2.cell? ⟨g, a * 2 + 1, none⟩ = some (.slice A' m cc) := by
      rw [q2.cell, Array.getElem?_setIfInBounds, if_pos rfl, if_pos (by have := HS.out; omega)]
    have hX : ∀ w', But (fun k => k = lb ∨ k = g) w w' → But (XLock lb lab i) w w' := fun w' hb => hb.mono fun k _ q => by
      rcases q with q | q
      · exact .inl q
      · exact .inr (by rw [q, HG.out]; exact rfl)
    have hO : OutC i cs (cs.setIfInBounds (4 * i) (.int .i64 x)) := OutC.set_ (d := 0) (by omega) _
    have Q1 := Lib.hid q1; have Q2 := Lib.hid q2; have Q3 := Lib.hid q3; have HV2 := Lib.hid hv2; have HR2 := Lib.hid hrow2; have HX := Lib.hid hX; have HO := Lib.hid hO
    clear q1 q2 q3 q4 q5 hlk hrow2 hv2 hX hO c0 f0 f1 rt
    by_cases hz : m = 0
    · subst hz
      have s1 : IntKind.i64.wrap ((a : Int) + 1) = (a : Int) + 1 := IntWalk.i64_in _ (by omega)
      have hd := delete_any (C := C) (r := (s, ts)) HG.out Q2.out (by simpa using HS.out) (by have := HNN.out; simp; omega) (by have := HNN.out; simp; omega) HR2.out
      rw [show (A ++ (s, ts) :: C).length = n by rw [← HNN.out]; simp; omega, HA.out] at hd
      have HD := Lib.hid hd
      have f3 := Q1.out.free (4 * i + 3)
      obtain ⟨p, hp⟩ : ∃ p, (A ++ C).length = p := ⟨_, rfl⟩
      rw [hp] at HD
      have HP := Lib.hid hp
      clear hd hp
      go_upto_region 3 with fail
      go_wp2_with (go_at_call 84; (with_reducible refine HD.out.mono ?_); rintro e w3 ⟨rfl, hb3, -, dcs, hk3, hs3, hr3⟩; have f3' := (Q1.out.but hb3 (fun e => hgl e.symm)).free (4 * i + 3); have d3 := ((Q1.out.but hb3 (fun e => hgl e.symm)).cell (4 * i + 3)).trans ((Q1.out.cell (4 * i + 3)).symm.trans c3); have HB3 := Lib.hid hb3; have HK3 := Lib.hid hk3; have HS3 := Lib.hid hs3; have HR3 := Lib.hid hr3; clear hb3 hk3 hs3 hr3 c3 rt2 f3)
      go_end0
      have k1 := (Q1.out.but HB3.out (fun e => hgl e.symm)).set_ (4 * i + 3) (.slice (some ⟨g, 0, none⟩) p cap)
      have hb4 : But (fun k => k = lb ∨ k = g) w (w3.setCell ⟨lb, 4 * i + 3, none⟩ (.slice (some ⟨g, 0, none⟩) p cap)) :=
        ((Q3.out.trans (HB3.out.mono fun k _ q => .inr q)).set ⟨lb, 4 * i + 3, none⟩ _ (.inl (.inl rfl)))
      have hb34 : But (fun k => k = lb) w3 (w3.setCell ⟨lb, 4 * i + 3, none⟩ (.slice (some ⟨g, 0, none⟩) p cap)) := (But.refl _ _).set ⟨lb, 4 * i + 3, none⟩ _ (.inl rfl)
      have hts : ts = [] := List.eq_nil_of_length_eq_zero HM.out
      subst hts
      have hh : headR c.rnd a = x := by rw [HC.out, ← HA.out, headR_at]; rfl
      have hcu : cutR2 a c.rnd = A ++ C := by rw [HC.out, ← HA.out, cutR2_at]; rfl
      refine ⟨rfl, ⟨_, .slice (some ⟨g, 0, none⟩) p cap, ⟨k1, ?_, ?_, H.out.own, fun k hk => H.out.fre k (Nat.le_trans hb4.size hk)⟩, HO.out.trans (OutC.set_ (d := 3) (by omega) _)⟩, HX.out _ hb4, LabUp.refl _ _ _⟩
      · have := lockV_rnd (lockV_own H.out.val x (cutR2 a c.rnd)) (.slice (some ⟨g, 0, none⟩) p cap)
        unfold tellC; rw [hh]; exact this
      · unfold tellC; rw [hcu]
        refine .inr ⟨g, cap, dcs, by rw [HP.out], by rw [List.length_append]; omega, HG.out, HK3.out.far (p := ⟨lb, 4 * i + 3, none⟩) hgl _, HS3.out, HR3.out.but hb34 (fun k r _ e q => ?_) (fun _ _ => rfl)⟩
        subst q; rw [H.out.own] at e; cases e
    · have t1 : (m == 0) = false := by simpa using hz
      have t2 : ((m : Int) == 0) = false := by simp; omega
      go_wp2_with fail
      go_end0
      have hne : ¬ (x :: ts).length ≤ 1 := by rw [List.length_cons, HM.out]; omega
      have hh : headR c.rnd a = x := by rw [HC.out, ← HA.out, headR_at]; rfl
      have hcu : cutR2 a c.rnd = A ++ (s, ts) :: C := by rw [HC.out, ← HA.out, cutR2_at, if_neg hne]; rfl
      refine ⟨rfl, ⟨_, .slice (some ⟨g, 0, none⟩) (A ++ (s, x :: ts) :: C).length cap, ⟨Q1.out, ?_, ?_, H.out.own, fun k hk => H.out.fre k (Nat.le_trans Q3.out.size hk)⟩, HO.out⟩, HX.out _ Q3.out, LabUp.refl _ _ _⟩
      · have := lockV_own H.out.val x (cutR2 a c.rnd)
        unfold tellC; rw [hh]; exact this
      · unfold tellC; rw [hcu]
        refine .inr ⟨g, cap, _, by rw [show (A ++ (s, x :: ts) :: C).length = (A ++ (s, ts) :: C).length by simp], ?_, HG.out, Q2.out, by simpa using HS.out, HR2.out⟩
        have := HNN.out; simp; omega
end
end Go.Proofs.Ytdomgipbadimmaa
