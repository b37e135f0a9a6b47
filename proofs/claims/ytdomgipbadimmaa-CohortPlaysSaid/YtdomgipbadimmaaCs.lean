/- Locks, as the laws see them: New, Give, Owner, Socket; of those that there are not (layer 14). -/
import Derived.Test.YtdomgipbadimmaaCr
namespace Go.Proofs.Ytdomgipbadimmaa
open Go.RowKit
set_option maxRecDepth 100000

section
variable {B : Nat → Prop} {pb lb : Nat} {lab : Nat → LabC} {ks : List Coh} {w : World} {i : Nat} {c : Coh}
set_option maxHeartbeats 4000000 in
theorem giveL_any (t : Int) (h : CohL B pb lb lab ks w) (hc : ks[i]? = some c) (hb : CohB c 900) (hB : ∀ k, w.heap.size ≤ k → B k) :
    Calls Try.prog 21 #[.pointer (some ⟨pb, 0, none⟩), .int .i64 (i : Int), .int .i64 t] w fun e w' => GiveL B pb lb ks i c t e w' ∧ But B w w' := by
  have hlt := (List.getElem?_eq_some_iff.1 hc).1
  obtain ⟨cs, rv, hl, hcs, hsz, hall⟩ := h.lock hc
  have P := Lib.hid (has_any h (i : Int))
  rw [show decide ((0 : Int) ≤ (i : Int) ∧ (i : Int) < (ks.length : Int)) = true by simp; omega] at P
  have c0 := h.box.cell 0
  simp only [List.getElem?_toArray, List.getElem?_cons_zero] at c0
  obtain ⟨n, hn⟩ : ∃ n, ks.length = n := ⟨_, rfl⟩
  rw [hn] at c0
  have i0 : (0 : Int) ≤ (i : Int) := by omega
  have i1 : (i : Int) < (n : Int) := by omega
  have PI := Lib.hid (isOf_any hl t)
  rw [Nat.mul_comm 4 i] at PI
  cases hiso : isOfC c t with
  | false =>
    have he : GiveL B pb lb ks i c t (.returned (.tuple #[.int .i64 0, .bool false, .int .i64 8])) w := by
      unfold GiveL; rw [hiso]; simp only [Bool.false_eq_true, false_and, if_false, Bool.false_and]
      rw [set_same hc]; exact ⟨trivial, lab, h⟩
    have HE := Lib.hid he
    rw [hiso] at PI
    clear hl hcs hsz hall h hc hb hn hiso he
    go_enter Try.func21, Try.ntmps21
    go_wp2_with (first
      | (go_at_call 43; (with_reducible refine P.out.mono ?_); rintro e w2 ⟨rfl, rfl⟩)
      | (go_at_call 44; (with_reducible refine PI.out.mono ?_); rintro e w2 ⟨rfl, rfl⟩))
    exact bodyPost_ret (v := .tuple #[.int .i64 0, .bool false, .int .i64 8]) (by simp [results, Try.results21, go_sem]) rfl ⟨HE.out, But.refl _ _⟩
  | true =>
    rw [hiso] at PI
    have hok := h.ok i c hc
    have PG := Lib.hid (give_any hl hok (by have := hb.pas; omega) hb.rnd hb.row)
    rw [Nat.mul_comm 4 i] at PG
    obtain ⟨gb, hgb⟩ : ∃ b, goesC c = b := ⟨_, rfl⟩
    obtain ⟨ow, how⟩ : ∃ z, (if goesC c = true then (giveC c).own else 0) = z := ⟨_, rfl⟩
    have hfin : ∀ lab' w', TurnC lb lab lab' i (giveC c) cs w w' → GiveL B pb lb ks i c t (.returned (.tuple #[.int .i64 ow, .bool gb, .int .i64 0])) w' ∧ But B w w' := fun lab' w' ht => by
      obtain ⟨q1, q2⟩ := CohL.turn h hc hcs hsz hall ht (give_ok hok) hB
      refine ⟨?_, q2⟩
      unfold GiveL; rw [hiso]
      simp only [true_and, if_true, Bool.true_and]
      rw [how, hgb]; exact ⟨rfl, lab', q1⟩
    have HF := Lib.hid hfin
    have PG2 : Hid (Calls Try.prog 48 #[.pointer (some ⟨lb, i * 4, none⟩)] w fun e w' => e = .returned (.tuple #[.int .i64 ow, .bool gb]) ∧ ∃ lab', TurnC lb lab lab' i (giveC c) cs w w') := PG.out.mono fun e w' hp => by
      unfold GiveP at hp; rw [how, hgb] at hp; exact hp
    clear hl hcs hsz hall h hc hb hn hiso PG hok hfin hgb how
    go_enter Try.func21, Try.ntmps21
    go_wp2_with (first
      | (go_at_call 43; (with_reducible refine P.out.mono ?_); rintro e w2 ⟨rfl, rfl⟩)
      | (go_at_call 44; (with_reducible refine PI.out.mono ?_); rintro e w2 ⟨rfl, rfl⟩)
      | (go_at_call 48; (with_reducible refine PG2.out.mono ?_); rintro e w4 ⟨rfl, lab4, h4⟩; have H4 := Lib.hid h4; clear h4))
    exact bodyPost_ret (v := .tuple #[.int .i64 ow, .bool gb, .int .i64 0]) (by simp [results, Try.results21, go_sem]) rfl (HF.out _ _ H4.out)
end
end Go.Proofs.Ytdomgipbadimmaa
