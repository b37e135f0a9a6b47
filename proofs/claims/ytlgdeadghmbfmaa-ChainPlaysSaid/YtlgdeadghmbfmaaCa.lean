/- all of a row of a chain. -/
import Derived.Test.YtlgdeadghmbfmaaCi
import Derived.Test.YtlgdeadghmbfmaaRd
namespace Go.Proofs.Ytlgdeadghmbfmaa
open Go.RowKit

def asInts (l : List Nat) : List Int := l.map fun x : Nat => (x : Int)
theorem asInts_length (l : List Nat) : (asInts l).length = l.length := by simp [asInts]
theorem asInts_get (l : List Nat) (j : Nat) : (asInts l)[j]?.getD 0 = (l[j]?.getD 0 : Nat) := by
  unfold asInts; rw [List.getElem?_map]; cases l[j]? <;> rfl
def sliceLen : Value → Nat
  | .slice _ q _ => q
  | _ => 0
set_option maxRecDepth 100000 in
set_option maxHeartbeats 4000000 in
theorem all_ok {b gl gn n m : Nat} {ls : Nat → List Nat} {w : World} (k : Nat) (h : Ch b gl gn n m ls w) (hk : k < m) :
    Calls Try.prog 88 #[.pointer (some ⟨b, 0, none⟩), .int .i64 k] w (RowQ (asInts (ls k)) w) := by
  have hlen := h.len_le hk
  have hn4 := h.lim.1
  have HF := Lib.hid (firstc_ok k h hk)
  have HC := Lib.hid h; clear h
  obtain ⟨l, hl⟩ : ∃ l, l = ls k := ⟨_, rfl⟩
  rw [← hl] at HF hlen ⊢
  have HL := Lib.hid hl; clear hl
  obtain ⟨d0, hd0⟩ : ∃ d, d = hd l := ⟨_, rfl⟩
  obtain ⟨e0, he0⟩ : ∃ e, e = !l.isEmpty := ⟨_, rfl⟩
  rw [← hd0, ← he0] at HF
  have HD := Lib.hid hd0; have HE := Lib.hid he0; clear hd0 he0
  go_enter Try.func88, Try.ntmps88
  go_wp2_with (first
    | (go_at_call 52; (with_reducible refine HF.out.mono ?_); rintro e wq ⟨rfl, rfl⟩))
  go_loopw [5, 6, 7] (fun x y z wr => ∃ i, i ≤ l.length ∧ Mine w.heap.size x (asInts (l.take i)) wr ∧ y = .int .i64 (hd (l.drop i)) ∧ z = .bool (!(l.drop i).isEmpty) ∧ But Nob w wr ∧ sliceLen x = i) (fun x _ _ _ => l.length - sliceLen x)
  case atStart => exact ⟨0, Nat.zero_le _, mine_nil _ _, by rw [HD.out]; rfl, by rw [HE.out]; rfl, But.refl _ _, rfl⟩
  case round =>
    obtain ⟨i, hi, hM, hy, hz, hG, hs⟩ := hrel
    by_cases hlt : i < l.length
    · obtain ⟨x, hx⟩ : ∃ x, x = l[i] := ⟨_, rfl⟩
      have hdr : l.drop i = x :: l.drop (i + 1) := by rw [List.drop_eq_getElem_cons hlt, hx]
      have hta : l.take (i + 1) = l.take i ++ [x] := by rw [List.take_add_one, List.getElem?_eq_getElem hlt, hx]; rfl
      have hsp : ls k = l.take i ++ x :: l.drop (i + 1) := by rw [← HL.out, ← hdr, List.take_append_drop]
      rw [hdr] at hy hz
      have hy' := hy.trans (show Value.int .i64 (hd (x :: l.drop (i + 1))) = .int .i64 (x : Int) from rfl)
      have hz' := hz.trans (show Value.bool (!(x :: l.drop (i + 1)).isEmpty) = .bool true from rfl)
      clear hy hz
      subst hy' hz'
      obtain ⟨d1, hd1⟩ : ∃ d, d = hd (l.drop (i + 1)) := ⟨_, rfl⟩
      obtain ⟨e1, he1⟩ : ∃ e, e = !(l.drop (i + 1)).isEmpty := ⟨_, rfl⟩
      have HN : Hid (∀ W, But Nob w W → Calls Try.prog 53 #[.pointer (some ⟨b, 0, none⟩), .int .i64 x] W fun e w' => e = .returned (.tuple #[.int .i64 d1, .bool e1]) ∧ W = w') := fun W hW => by
        rw [hd1, he1]; exact nextc_ok x k (l.take i) (l.drop (i + 1)) (HC.out.but hW fun _ _ q => q) hk hsp
      have hws := hG.size
      have hB1 : Below w.heap.size w wr := hG.below (Nat.le_refl _) fun _ _ q => q.elim
      have HTA := Lib.hid hta; have HD1 := Lib.hid hd1; have HE1 := Lib.hid he1; have HS := Lib.hid hs
      have HM := Lib.hid hM; have HB1 := Lib.hid hB1
      clear hM hB1 hG hx hdr hta hsp hd1 he1 hs
      go_wp2_with (first
        | (at_builtin; refine app_ints rfl (.tmp 21) (.tmp 23) rfl w.heap.size _ (asInts (l.take i)) rfl (HM.out.alloc _) (some ⟨wr.heap.size, 0, none⟩) 1 1 (fun _ => (x : Int)) rfl (fun e => by cases e) (Nat.le_refl _) (fun j hj => ⟨wr.heap.size, 0, rfl, by simp, by rw [show j = 0 by omega]; exact (Blk.new wr 3 #[.int .i64 x]).cell 0⟩) (by omega) (by rw [asInts_length, List.length_take]; omega) (by simp; omega) ?_
           intro v2 w2 h2
           have H2 := Lib.hid h2.1; have HG2 := Lib.hid (But.of_below (X := Nob) ((HB1.out.alloc hws (.cells #[.int .i64 x] 3)).trans h2.2.1)); clear h2)
        | (go_at_call 53; (with_reducible refine (HN.out _ HG2.out).mono ?_); rintro e wq ⟨rfl, rfl⟩))
      have hm2 : Mine w.heap.size v2 (asInts (l.take (i + 1))) w2 := by rw [HTA.out]; have := H2.out; simpa [asInts, zs] using this
      obtain ⟨ad2, cap2, hv2, -⟩ := hm2.ints
      have hs2 : sliceLen v2 = i + 1 := by rw [hv2]; show (asInts (l.take (i + 1))).length = _; rw [asInts_length, List.length_take]; omega
      have HM2 := Lib.hid hm2; have HS2 := Lib.hid hs2
      clear hm2 hs2 hv2
      go_roundw
      case rel => exact ⟨i + 1, hlt, HM2.out, by rw [HD1.out], by rw [HE1.out], HG2.out, HS2.out⟩
      case measure => rw [HS2.out, HS.out]; omega
    · obtain rfl : i = l.length := by omega
      rw [List.drop_length] at hy hz
      have hy' := hy.trans (show Value.int .i64 (hd []) = .int .i64 0 from rfl)
      have hz' := hz.trans (show Value.bool (!([] : List Nat).isEmpty) = .bool false from rfl)
      clear hy hz
      subst hy' hz'
      rw [List.take_length] at hM
      have HM := Lib.hid hM; have HG := Lib.hid hG
      clear hM hG hs
      go_wp2_with fail
      go_ret
      obtain ⟨ad, cap, hv, hnil, hcap, hI, hbb⟩ := HM.out.ints
      refine ⟨ad, _, cap, by rw [hv]; rfl, rfl, by rw [asInts_length]; omega, fun j hj => ?_, HG.out⟩
      obtain ⟨_, h0 | ⟨g, cap', cur, hv', hg, hh, -⟩⟩ := id HM.out
      · exact absurd h0.2 (by omega)
      · rw [hv] at hv'
        cases hv'
        obtain ⟨b', off', e', -, hc⟩ := hI j hj
        cases e'
        refine ⟨g, cur, rfl, hg, hh, ?_⟩
        have := (show Blk wr g 3 cur from hh).cell j
        rw [← this]
        simpa using hc
end Go.Proofs.Ytlgdeadghmbfmaa
