/- The contract of the document's Same. -/
import Derived.Test.YtaghoicmfpndbaaRl
namespace Go.Proofs.Ytaghoicmfpndbaa
open Go.RowKit

/-- The document's All, of every text of at most 100000 bytes. -/
theorem refAll_any (s : ByteArray) (w : World) :
    Calls Try.prog 10 #[.string s] w (RefPost s w.heap.size w (resR s)) := by
  by_cases h : 65536 < s.size
  · have := refAll_big s w h
    unfold resR; rw [if_pos h]; exact this
  · exact refAll_in s w (by omega)
set_option maxHeartbeats 1000000 in
theorem same_true (w : World) (g1 g2 n c1 c2 : Nat) (kd : Nat → Int) (tx : Nat → ByteArray) (hn : n ≤ 100000) (hc1 : n ≤ c1) (hc2 : n ≤ c2)
    (h1 : ∀ i, i < n → w.cell? ⟨g1, i * 5, none⟩ = some (.int .i64 (kd i)) ∧ w.cell? ⟨g1, i * 5 + 1, none⟩ = some (.string (tx i)))
    (h2 : ∀ i, i < n → w.cell? ⟨g2, i * 5, none⟩ = some (.int .i64 (kd i)) ∧ w.cell? ⟨g2, i * 5 + 1, none⟩ = some (.string (tx i))) :
    Calls Try.prog 11 #[.slice (some ⟨g1, 0, none⟩) n c1, .slice (some ⟨g2, 0, none⟩) n c2] w fun e w' => e = .returned (.bool true) ∧ Below w.heap.size w w' := by
  have H1 := Lib.hid h1; have H2 := Lib.hid h2; clear h1 h2
  go_enter Try.func11, Try.ntmps11
  go_wp2_with fail
  go_loopg [13] n (fun g x wx => ∃ k, k ≤ n ∧ g = n - k ∧ x = .int .i64 k ∧ ∃ d, wx = w.drewN d)
  case atStart => exact ⟨0, by omega, by omega, rfl, 0, rfl⟩
  case round =>
    obtain ⟨k, hk, hg, hx, d, hw⟩ := hrel
    have HG := Lib.hid hg; clear hg
    subst hx hw
    by_cases hlt : k < n
    · obtain ⟨a1, a2⟩ := H1.out k hlt
      obtain ⟨b1, b2⟩ := H2.out k hlt
      have j0 : (0 : Int) ≤ (k : Int) := by omega
      have j1 : (k : Int) < (n : Int) := by omega
      go_wp2_with fail
      go_quiet (fail)
      go_wp2_with fail
      go_roundg (n - (k + 1))
      case measure => have := HG.out; omega
      case rel => exact ⟨k + 1, by omega, rfl, by go_num, d + nq, rfl⟩
    · obtain rfl : k = n := by omega
      go_wp2_with fail
      go_ret
      exact ⟨rfl, ⟨rfl, rfl, rfl, Nat.le_refl _, fun _ _ => rfl⟩⟩
theorem same_zero (w : World) (a1 a2 : Option Addr) (c1 c2 : Nat) :
    Calls Try.prog 11 #[.slice a1 0 c1, .slice a2 0 c2] w fun e w' => e = .returned (.bool true) ∧ Below w.heap.size w w' := by
  go_enter Try.func11, Try.ntmps11
  go_wp2_with fail
  go_loopg [13] 0 (fun _ x wx => x = .int .i64 0 ∧ w = wx)
  case atStart => exact ⟨rfl, rfl⟩
  case round =>
    obtain ⟨hx, rfl⟩ := hrel
    subst hx
    go_wp2_with fail
    go_ret
    exact ⟨rfl, Below.refl _ _⟩
theorem toksC_get (s : ByteArray) (l : List Tok) : ∀ i o (hi : i < l.length), o < 5 → (toksC s l)[i * 5 + o]? = (tokC s (l[i]).kind (l[i]).a (l[i]).e)[o]? := by
  induction l with
  | nil => intro i o hi; simp at hi
  | cons t l ih =>
    intro i o hi ho
    have hl : (tokC s t.kind t.a t.e).toList.length = 5 := by simp [tokC]
    have e : toksC s (t :: l) = (tokC s t.kind t.a t.e).toList ++ toksC s l := by simp [toksC]
    rw [e]
    cases i with
    | zero =>
      rw [List.getElem?_append_left (by omega)]
      simp
    | succ i =>
      rw [List.getElem?_append_right (by omega), hl, show (i + 1) * 5 + o - 5 = i * 5 + o by omega]
      exact ih i o (by simpa using hi) ho
theorem add_addr (g o : Nat) : (⟨g, 0, none⟩ : Addr).add o = ⟨g, o, none⟩ := by unfold Addr.add; split <;> simp_all
/-- A row of tokens, place by place. -/
theorem row_get {w : World} {B : Nat} {v : Value} {s : ByteArray} {l : List Tok} (h : w.ownsRow B 33 5 v l.length (toksC s l)) (hl : l ≠ []) :
    ∃ g cap, v = .slice (some ⟨g, 0, none⟩) l.length cap ∧ B ≤ g ∧ g < w.heap.size ∧ l.length ≤ cap ∧ ∀ i (hi : i < l.length),
      w.cell? ⟨g, i * 5, none⟩ = some (.int .i64 (l[i]).kind) ∧ w.cell? ⟨g, i * 5 + 1, none⟩ = some (.string (s.extract (l[i]).a (l[i]).e)) ∧
      w.cell? ⟨g, i * 5 + 2, none⟩ = some (.int .i64 (l[i]).a) ∧ w.cell? ⟨g, i * 5 + 3, none⟩ = some (.int .i64 (lineA (byteAt s) (l[i]).a)) ∧ w.cell? ⟨g, i * 5 + 4, none⟩ = some (.int .i64 (colA (byteAt s) (l[i]).a)) := by
  have hc := h
  rcases h.2 with ⟨-, hn⟩ | ⟨g, cap, cur, rfl, hg, hh, hcap, _⟩
  · exact absurd (List.eq_nil_of_length_eq_zero hn) hl
  · have key := hc.cells (g := g) rfl
    refine ⟨g, cap, rfl, hg, (hc.lt g rfl).2, hcap, fun i hi => ?_⟩
    have k0 := key (i * 5 + 0) _ (by rw [toksC_get s l i 0 hi (by omega)]; rfl)
    have k1 := key (i * 5 + 1) _ (by rw [toksC_get s l i 1 hi (by omega)]; rfl)
    have k2 := key (i * 5 + 2) _ (by rw [toksC_get s l i 2 hi (by omega)]; rfl)
    have k3 := key (i * 5 + 3) _ (by rw [toksC_get s l i 3 hi (by omega)]; rfl)
    have k4 := key (i * 5 + 4) _ (by rw [toksC_get s l i 4 hi (by omega)]; rfl)
    rw [add_addr] at k0 k1 k2 k3 k4
    exact ⟨k0, k1, k2, k3, k4⟩
/-- What Same looks at. -/
def faceL (s : ByteArray) (l : List Tok) : List (Nat × ByteArray) := l.map fun t => (t.kind, s.extract t.a t.e)
theorem same_own (w : World) (B1 B2 : Nat) (v1 v2 : Value) (s1 s2 : ByteArray) (l1 l2 : List Tok) (h1 : w.ownsRow B1 33 5 v1 l1.length (toksC s1 l1)) (h2 : w.ownsRow B2 33 5 v2 l2.length (toksC s2 l2))
    (hn : l1.length ≤ 100000) (he : faceL s1 l1 = faceL s2 l2) :
    Calls Try.prog 11 #[v1, v2] w fun e w' => e = .returned (.bool true) ∧ Below w.heap.size w w' := by
  have hlen : l1.length = l2.length := by have := congrArg List.length he; simpa [faceL] using this
  by_cases hl : l1 = []
  · subst hl
    have hl2 : l2 = [] := List.eq_nil_of_length_eq_zero (by simpa using hlen.symm)
    subst hl2
    obtain ⟨a1, c1, rfl⟩ := own_form h1
    obtain ⟨a2, c2, rfl⟩ := own_form h2
    exact same_zero w a1 a2 c1 c2
  · have hl2 : l2 ≠ [] := fun e => hl (List.eq_nil_of_length_eq_zero (by rw [hlen, e]; rfl))
    obtain ⟨g1, c1, rfl, -, -, hc1, k1⟩ := row_get h1 hl
    obtain ⟨g2, c2, rfl, -, -, hc2, k2⟩ := row_get h2 hl2
    rw [← hlen]
    refine same_true w g1 g2 l1.length c1 c2 (fun i => ((l1[i]?.map (·.kind)).getD 0 : Nat)) (fun i => (l1[i]?.map fun t => s1.extract t.a t.e).getD ByteArray.empty) hn hc1 (by omega) (fun i hi => ?_) (fun i hi => ?_)
    · obtain ⟨a, b, -⟩ := k1 i hi
      rw [a, b]; simp [hi]
    · obtain ⟨a, b, -⟩ := k2 i (by omega)
      have hf := congrArg (fun L => L[i]?) he
      simp only [faceL, List.getElem?_map] at hf
      rw [List.getElem?_eq_getElem hi, List.getElem?_eq_getElem (show i < l2.length by omega)] at hf
      simp only [Option.map_some, Option.some.injEq, Prod.mk.injEq] at hf
      rw [a, b]; simp [hi, hf.1, hf.2]
end Go.Proofs.Ytaghoicmfpndbaa
