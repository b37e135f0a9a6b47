/- Locks, as the laws see them: Len, has, isOf, Owner, Socket, Take, Give (layer 14). -/
import Derived.Test.YtdomgipbadimmaaCx
import Derived.Test.YtdomgipbadimmaaCq
import Derived.Test.YtdomgipbadimmaaCw
namespace Go.Proofs.Ytdomgipbadimmaa
open Go.RowKit
set_option maxRecDepth 100000

/-- Locks in memory: the struct at pb, the row at lb; B: blocks that may be theirs. -/
structure CohL (B : Nat → Prop) (pb lb : Nat) (lab : Nat → LabC) (ks : List Coh) (w : World) : Prop where
  box : Blk w pb 91 #[.slice (some ⟨lb, 0, none⟩) ks.length ks.length]
  blk : ∃ cs, Blk w lb 89 cs ∧ cs.size = 4 * ks.length ∧ ∀ (i : Nat) (c : Coh), ks[i]? = some c → ∃ rv, LockV cs i c rv ∧ RndM w lab i rv c.rnd
  own : lab lb = .locks
  pwn : lab pb = .locks
  pne : pb ≠ lb
  fre : ∀ k, w.heap.size ≤ k → lab k = .no
  old : ∀ k, lab k ≠ .no → B k
  ok : ∀ (i : Nat) (c : Coh), ks[i]? = some c → CohOk c
section
variable {B : Nat → Prop} {pb lb : Nat} {lab lab' : Nat → LabC} {ks : List Coh} {w w' : World} {i : Nat} {c c' : Coh} {cs : Array Value}
theorem CohL.nob (h : CohL B pb lb lab ks w) (hb : But Nob w w') : CohL B pb lb lab ks w' := by
  obtain ⟨cs, a, b, d⟩ := h.blk
  exact ⟨h.box.but hb id, ⟨cs, a.but hb id, b, fun i c hc => let ⟨rv, x, y⟩ := d i c hc; ⟨rv, x, y.nob hb⟩⟩, h.own, h.pwn, h.pne, fun k q => h.fre k (Nat.le_trans hb.size q), h.old, h.ok⟩
theorem CohL.below (h : CohL B pb lb lab ks w) (hb : Below w.heap.size w w') : CohL B pb lb lab ks w' := h.nob (But.of_below hb)
theorem CohL.lock (h : CohL B pb lb lab ks w) (hc : ks[i]? = some c) : ∃ cs rv, LockM w lb lab i c cs rv ∧ Blk w lb 89 cs ∧ cs.size = 4 * ks.length ∧ ∀ (j : Nat) (d : Coh), ks[j]? = some d → ∃ rv, LockV cs j d rv ∧ RndM w lab j rv d.rnd := by
  obtain ⟨cs, a, b, d⟩ := h.blk
  obtain ⟨rv, x, y⟩ := d i c hc
  exact ⟨cs, rv, ⟨a, x, y, h.own, h.fre⟩, a, b, d⟩
theorem ofLock_one {i j : Nat} {x : LabC} (h : OfLock i x) (k : OfLock j x) : i = j := by
  cases x with
  | no => exact h.elim
  | locks => exact h.elim
  | round a => exact (Eq.trans h.symm k : i = j)
  | tasks a s => exact (Eq.trans h.symm k : i = j)
/-- Behind a call at one of them. -/
theorem CohL.turn (h : CohL B pb lb lab ks w) (hc : ks[i]? = some c) (hcs : Blk w lb 89 cs) (hsz : cs.size = 4 * ks.length) (hall : ∀ (j : Nat) (d : Coh), ks[j]? = some d → ∃ rv, LockV cs j d rv ∧ RndM w lab j rv d.rnd) (ht : TurnC lb lab lab' i c' cs w w') (hok : CohOk c') (hB : ∀ k, w.heap.size ≤ k → B k) :
    CohL B pb lb lab' (ks.set i c') w' ∧ But B w w' := by
  obtain ⟨⟨cs', rv', hl, ho⟩, hb, hu⟩ := ht
  have hlt := (List.getElem?_eq_some_iff.1 hc).1
  have hold : ∀ k, k < w.heap.size → lab' k = lab k := hu.old
  have hpl : pb < w.heap.size := h.box.lt
  have hX : ∀ k, XLock lb lab i k → B k := fun k q => by
    rcases q with rfl | q
    · exact h.old _ (by rw [h.own]; intro e; cases e)
    · exact h.old k (fun e => by rw [e] at q; exact q)
  refine ⟨⟨?_, ⟨cs', hl.blk, by rw [ho.size, hsz, List.length_set], fun j d hd => ?_⟩, (hold lb hcs.lt).trans h.own, (hold pb hpl).trans h.pwn, h.pne, hl.fre, fun k hk => ?_, fun j d hd => ?_⟩, hb.mono (fun k _ q => hX k q)⟩
  · rw [List.length_set]
    refine h.box.but hb fun q => ?_
    rcases q with q | q
    · exact h.pne q
    · rw [h.pwn] at q; exact q
  · rw [List.getElem?_set] at hd
    by_cases e : i = j
    · subst e
      rw [if_pos rfl, if_pos hlt] at hd
      cases hd
      exact ⟨rv', hl.val, hl.rnd⟩
    · rw [if_neg e] at hd
      obtain ⟨rv, x, y⟩ := hall j d hd
      refine ⟨rv, ⟨?_, ?_, ?_, ?_⟩, y.but hb (fun k q r => ?_) hold⟩
      · rw [ho.out _ (by omega)]; exact x.c0
      · rw [ho.out _ (by omega)]; exact x.c1
      · rw [ho.out _ (by omega)]; exact x.c2
      · rw [ho.out _ (by omega)]; exact x.c3
      · rcases r with r | r
        · subst r; rw [h.own] at q; exact q
        · exact e (ofLock_one r q)
  · by_cases e : k < w.heap.size
    · rw [hold k e] at hk; exact h.old k hk
    · exact hB k (by omega)
  · rw [List.getElem?_set] at hd
    by_cases e : i = j
    · subst e
      rw [if_pos rfl, if_pos hlt] at hd
      cases hd; exact hok
    · rw [if_neg e] at hd; exact h.ok j d hd
theorem len_any (h : CohL B pb lb lab ks w) : Calls Try.prog 22 #[.pointer (some ⟨pb, 0, none⟩)] w fun e w' => e = .returned (.int .i64 ks.length) ∧ w = w' := by
  have c0 := h.box.cell 0
  simp only [List.getElem?_toArray, List.getElem?_cons_zero] at c0
  generalize ks.length = n at *
  clear h
  go_enter Try.func22, Try.ntmps22
  go_wp2_with fail
  go_ret
  exact ⟨rfl, rfl⟩
theorem len_nil (w : World) : Calls Try.prog 22 #[.pointer none] w fun e w' => e = .returned (.int .i64 0) ∧ w = w' := by
  go_enter Try.func22, Try.ntmps22
  go_wp2_with fail
  go_ret
  exact ⟨rfl, rfl⟩
theorem has_any (h : CohL B pb lb lab ks w) (k : Int) : Calls Try.prog 43 #[.pointer (some ⟨pb, 0, none⟩), .int .i64 k] w fun e w' => e = .returned (.bool (decide (0 ≤ k ∧ k < (ks.length : Int)))) ∧ w = w' := by
  have P := Lib.hid (len_any h)
  generalize ks.length = n at *
  clear h
  by_cases h0 : 0 ≤ k
  · by_cases h1 : k < (n : Int)
    · rw [show decide (0 ≤ k ∧ k < (n : Int)) = true by simp; omega]
      go_enter Try.func43, Try.ntmps43
      go_wp2_with (go_at_call 22; (with_reducible refine P.out.mono ?_); rintro e w2 ⟨rfl, rfl⟩)
      go_ret
      exact ⟨rfl, rfl⟩
    · have t1 : decide (k < (n : Int)) = false := by simp; omega
      rw [show decide (0 ≤ k ∧ k < (n : Int)) = false by simp; omega]
      go_enter Try.func43, Try.ntmps43
      go_wp2_with (go_at_call 22; (with_reducible refine P.out.mono ?_); rintro e w2 ⟨rfl, rfl⟩)
      go_ret
      exact ⟨rfl, rfl⟩
  · rw [show decide (0 ≤ k ∧ k < (n : Int)) = false by simp; omega]
    go_enter Try.func43, Try.ntmps43
    go_wp2_with fail
    go_ret
    exact ⟨rfl, rfl⟩
theorem has_nil (k : Int) (w : World) : Calls Try.prog 43 #[.pointer none, .int .i64 k] w fun e w' => e = .returned (.bool false) ∧ w = w' := by
  have P := Lib.hid (len_nil w)
  by_cases h0 : 0 ≤ k
  · have h1 : decide (k < 0) = false := by simp; omega
    go_enter Try.func43, Try.ntmps43
    go_wp2_with (go_at_call 22; (with_reducible refine P.out.mono ?_); rintro e w2 ⟨rfl, rfl⟩)
    go_ret
    exact ⟨rfl, rfl⟩
  · go_enter Try.func43, Try.ntmps43
    go_wp2_with fail
    go_ret
    exact ⟨rfl, rfl⟩
theorem isOf_any {rv : Value} (h : LockM w lb lab i c cs rv) (t : Int) : Calls Try.prog 44 #[.pointer (some ⟨lb, 4 * i, none⟩), .int .i64 t] w fun e w' => e = .returned (.bool (isOfC c t)) ∧ w = w' := by
  obtain ⟨c0, -, -, -⟩ := h.cell
  clear h
  unfold isOfC
  obtain ⟨o, ho⟩ : ∃ o, c.own = o := ⟨_, rfl⟩
  rw [ho] at c0 ⊢
  clear ho
  by_cases h1 : t = -1
  · have t1 : (t == -1) = true := by simpa using h1
    have t2 : (t != -1) = false := by simp [h1]
    rw [t1]
    clear h1
    go_enter Try.func44, Try.ntmps44
    go_wp2_with fail
    go_ret
    exact ⟨rfl, rfl⟩
  · have t1 : (t == -1) = false := by simpa using h1
    have t2 : (t != -1) = true := by simp [h1]
    rw [t1]
    clear h1
    obtain ⟨b, hb⟩ : ∃ b, (o == t) = b := ⟨_, rfl⟩
    rw [hb]
    go_enter Try.func44, Try.ntmps44
    go_wp2_with fail
    go_ret
    exact ⟨rfl, rfl⟩
end
end Go.Proofs.Ytdomgipbadimmaa
