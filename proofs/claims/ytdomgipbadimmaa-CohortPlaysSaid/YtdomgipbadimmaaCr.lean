/- Locks, as the laws see them: New, Take, Give, Owner, Socket; of those that there are not (layer 14). -/
import Derived.Test.YtdomgipbadimmaaCo
namespace Go.Proofs.Ytdomgipbadimmaa
open Go.RowKit
set_option maxRecDepth 100000

/-- What Take gives. -/
def TakeL (B : Nat → Prop) (pb lb : Nat) (ks : List Coh) (i : Nat) (c : Coh) (t s : Int) (e : Ending) (w' : World) : Prop :=
  e = .returned (.tuple #[.bool (takeE c t s).1, .int .i64 (takeE c t s).2]) ∧ ∃ lab', CohL B pb lb lab' (ks.set i (takeT c t s)) w'
def GiveL (B : Nat → Prop) (pb lb : Nat) (ks : List Coh) (i : Nat) (c : Coh) (t : Int) (e : Ending) (w' : World) : Prop :=
  e = .returned (.tuple #[.int .i64 (if isOfC c t = true ∧ goesC c = true then (giveC c).own else 0), .bool (isOfC c t && goesC c), .int .i64 (if isOfC c t = true then 0 else 8)]) ∧ ∃ lab', CohL B pb lb lab' (ks.set i (if isOfC c t = true then giveC c else c)) w'
theorem set_same {ks : List Coh} {i : Nat} {c : Coh} (h : ks[i]? = some c) : ks.set i c = ks := by
  apply List.ext_getElem?
  intro j
  rw [List.getElem?_set]
  by_cases e : i = j
  · subst e; rw [if_pos rfl, if_pos (List.getElem?_eq_some_iff.1 h).1, h]
  · rw [if_neg e]
section
variable {B : Nat → Prop} {pb lb : Nat} {lab : Nat → LabC} {ks : List Coh} {w : World} {i : Nat} {c : Coh}
theorem take_not {t s : Int} (h : CohL B pb lb lab ks w) (hc : ks[i]? = some c) {E : Int} (he : takeE c t s = (false, E)) (hE : E ≠ 0) (w' : World) (hn : But Nob w w') : TakeL B pb lb ks i c t s (.returned (.tuple #[.bool false, .int .i64 E])) w' := by
  unfold TakeL takeT; rw [he, if_neg hE, set_same hc]; exact ⟨rfl, lab, h.nob hn⟩
set_option maxHeartbeats 4000000 in
theorem takeL_any (t s : Int) (h : CohL B pb lb lab ks w) (hc : ks[i]? = some c) (hb : CohB c 900) (hB : ∀ k, w.heap.size ≤ k → B k) :
    Calls Try.prog 17 #[.pointer (some ⟨pb, 0, none⟩), .int .i64 (i : Int), .int .i64 t, .int .i64 s] w fun e w' => TakeL B pb lb ks i c t s e w' ∧ But B w w' := by
  have hlt := (List.getElem?_eq_some_iff.1 hc).1
  obtain ⟨cs, rv, hl, hcs, hsz, hall⟩ := h.lock hc
  have P := Lib.hid (has_any h (i : Int))
  rw [show decide ((0 : Int) ≤ (i : Int) ∧ (i : Int) < (ks.length : Int)) = true by simp; omega] at P
  have c0 := h.box.cell 0
  simp only [List.getElem?_toArray, List.getElem?_cons_zero] at c0
  obtain ⟨n, hn⟩ : ∃ n, ks.length = n := ⟨_, rfl⟩
  rw [hn] at c0
  have i0 : (0 : Int) ≤ (i : Int) := by omega
  have i1 : (i : Int) < (n : Int) := by omega
  by_cases hneg : t < 0 ∨ s < 0
  · have he : takeE c t s = (false, 1) := by unfold takeE; rw [if_pos hneg]
    have HE := Lib.hid (take_not h hc he (by decide) w (But.refl _ _))
    clear hl hcs hsz hall h hc hb hn he
    by_cases h1 : t < 0
    · clear hneg
      go_enter Try.func17, Try.ntmps17
      go_wp2_with (go_at_call 43; (with_reducible refine P.out.mono ?_); rintro e w2 ⟨rfl, rfl⟩)
      go_ret2
      exact ⟨HE.out, But.refl _ _⟩
    · have h2 : s < 0 := by omega
      clear hneg
      go_enter Try.func17, Try.ntmps17
      go_wp2_with (go_at_call 43; (with_reducible refine P.out.mono ?_); rintro e w2 ⟨rfl, rfl⟩)
      go_ret2
      exact ⟨HE.out, But.refl _ _⟩
  · have h1 : ¬ t < 0 := by omega
    have h2 : ¬ s < 0 := by omega
    have tt1 : decide (t < 0) = false := by simpa using h1
    have tt2 : decide (s < 0) = false := by simpa using h2
    have PI := Lib.hid (isOf_any hl t)
    have hiso : isOfC c t = (c.own == t) := by unfold isOfC; have : (t == -1) = false := by simp; omega
                                               rw [this]; rfl
    rw [hiso, Nat.mul_comm 4 i] at PI
    by_cases h3 : c.own = t
    · have he : takeE c t s = (false, 8) := by unfold takeE; rw [if_neg hneg, if_pos h3]
      have HE := Lib.hid (take_not h hc he (by decide) w (But.refl _ _))
      rw [show (c.own == t) = true by simpa using h3] at PI
      clear hl hcs hsz hall h hc hb hn he h3 hiso hneg
      go_enter Try.func17, Try.ntmps17
      go_wp2_with (first
        | (go_at_call 43; (with_reducible refine P.out.mono ?_); rintro e w2 ⟨rfl, rfl⟩)
        | (go_at_call 44; (with_reducible refine PI.out.mono ?_); rintro e w2 ⟨rfl, rfl⟩))
      go_ret2
      exact ⟨HE.out, But.refl _ _⟩
    · rw [show (c.own == t) = false by simpa using h3] at PI
      have QW := Lib.hid (with_any t w)
      have hal : But Nob w (w.alloc (.cells #[.int .i64 t] 3)) := (But.refl _ _).alloc _
      have hl2 := hl.nob hal
      have PF := Lib.hid (find_with t (by have := hb.rnd; omega) (fun r hr => by have := hb.row r hr; omega) hl2 w.heap.size ((Blk.new w 3 #[.int .i64 t]).cell 0))
      obtain ⟨I, hI⟩ : ∃ I, idxR (withR t) c.rnd 0 = I := ⟨_, rfl⟩
      rw [hI, Nat.mul_comm 4 i] at PF
      have HAL := Lib.hid hal; have HH := Lib.hid h; have HC := Lib.hid hc; have HB := Lib.hid hb; have H3 := Lib.hid h3; have HL := Lib.hid hl; have HI := Lib.hid hI; have HNEG := Lib.hid hneg
      have HCS := Lib.hid hcs; have HSZ := Lib.hid hsz; have HALL := Lib.hid hall
      clear hl hl2 hcs hsz hall h hc hb hn h3 hiso hneg hal hI
      rcases idxR_split (withR t) c.rnd 0 with ⟨e, hno⟩ | ⟨A, r, C, hL, e, hr, hA⟩
      · have t1 : ¬ 0 ≤ I := by rw [← HI.out, e]; omega
        have hw : waitsC c t = false := by unfold waitsC; rw [List.any_eq_false]; intro r hr; rw [hno r hr]; simp
        have he : takeE c t s = (decide (c.own = -1), 0) := by unfold takeE; rw [if_neg HNEG.out, if_neg H3.out, if_neg (by rw [hw]; simp)]
        have hT : takeT c t s = takeC c t s := by unfold takeT; rw [he, if_pos rfl]
        have hok : CohOk (takeC c t s) := take_ok (HH.out.ok i c HC.out) (by omega)
        have HE := Lib.hid he; have HT := Lib.hid hT; have HOK := Lib.hid hok
        have PT : Hid (∀ W, But Nob w W → Calls Try.prog 47 #[.pointer (some ⟨lb, 4 * i, none⟩), .int .i64 t, .int .i64 s] W fun e w' => e = .returned (.bool (decide (c.own = -1))) ∧ ∃ lab', TurnC lb lab lab' i (takeC c t s) cs W w') := fun W hW => by
          by_cases q : c.own = -1
          · rw [show decide (c.own = -1) = true by simpa using q]; exact take_free (HL.out.nob hW) q
          · rw [show decide (c.own = -1) = false by simpa using q]
            have hokc := HH.out.ok i c HC.out
            exact take_wait (HL.out.nob hW) q (by have := HB.out.rnd; omega) (fun r hr => by have := HB.out.row r hr; omega) hokc.soc
        obtain ⟨dd, hdd⟩ : ∃ b, decide (c.own = -1) = b := ⟨_, rfl⟩
        rw [hdd] at HE PT
        rw [Nat.mul_comm 4 i] at PT
        clear e hno hw he hT hok hdd
        go_enter Try.func17, Try.ntmps17
        go_wp2_with (first
          | (go_at_call 43; (with_reducible refine P.out.mono ?_); rintro e w2 ⟨rfl, rfl⟩)
          | (go_at_call 44; (with_reducible refine PI.out.mono ?_); rintro e w2 ⟨rfl, rfl⟩)
          | (go_at_call 46; (with_reducible refine QW.out.mono ?_); rintro e w2 ⟨rfl, rfl⟩)
          | (go_at_call 45; (with_reducible refine PF.out.mono ?_); rintro e w3 ⟨rfl, h3⟩; have HB3 : Hid (But Nob w w3) := HAL.out.trans (But.of_below h3); clear h3)
          | (go_at_call 47; (with_reducible refine (PT.out _ HB3.out).mono ?_); rintro e w4 ⟨rfl, lab4, h4⟩; have H4 := Lib.hid h4; clear h4))
        go_ret2
        have hb3 := HB3.out
        obtain ⟨q1, q2⟩ := CohL.turn (HH.out.nob hb3) HC.out (HCS.out.but hb3 id) HSZ.out (fun j d hd => by obtain ⟨rv, x, y⟩ := HALL.out j d hd; exact ⟨rv, x, y.nob hb3⟩) H4.out HOK.out (fun k hk => hB k (Nat.le_trans hb3.size hk))
        refine ⟨?_, But.trans hb3.nob q2⟩
        unfold TakeL
        rw [HE.out, HT.out]
        exact ⟨rfl, lab4, q1⟩
      · have t1 : 0 ≤ I := by rw [← HI.out, e]; omega
        have hw : waitsC c t = true := by unfold waitsC; rw [hL, List.any_append, List.any_cons, hr]; simp
        have he : takeE c t s = (false, 9) := by unfold takeE; rw [if_neg HNEG.out, if_neg H3.out, if_pos hw]
        have HE : Hid (∀ w', But Nob w w' → TakeL B pb lb ks i c t s (.returned (.tuple #[.bool false, .int .i64 9])) w') := fun w' hn => take_not HH.out HC.out he (by decide) w' hn
        clear hL e hr hA hw he
        go_enter Try.func17, Try.ntmps17
        go_wp2_with (first
          | (go_at_call 43; (with_reducible refine P.out.mono ?_); rintro e w2 ⟨rfl, rfl⟩)
          | (go_at_call 44; (with_reducible refine PI.out.mono ?_); rintro e w2 ⟨rfl, rfl⟩)
          | (go_at_call 46; (with_reducible refine QW.out.mono ?_); rintro e w2 ⟨rfl, rfl⟩)
          | (go_at_call 45; (with_reducible refine PF.out.mono ?_); rintro e w3 ⟨rfl, h3⟩; have HB3 : Hid (But Nob w w3) := HAL.out.trans (But.of_below h3); clear h3))
        go_ret2
        exact ⟨HE.out _ HB3.out, HB3.out.nob⟩
end
end Go.Proofs.Ytdomgipbadimmaa
