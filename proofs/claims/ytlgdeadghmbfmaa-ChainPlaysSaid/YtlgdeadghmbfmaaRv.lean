/- A ring's At. -/
import Derived.Test.YtlgdeadghmbfmaaRu
namespace Go.Proofs.Ytlgdeadghmbfmaa
open Go.RowKit

/-- There is such a place. -/
def there (l : List Int) (i : Int) : Bool := decide (0 ≤ i) && decide (i < l.length)
theorem there_yes {l : List Int} {i : Nat} (h : i < l.length) : there l i = true := by simp [there]; omega
theorem Rg.drewN {b : Nat} {G : Option Nat} {l : List Int} {room : Nat} {w : World} (h : Rg b G l room w) (n : Nat) : Rg b G l room (w.drewN n) := h.but ((But.refl Nob w).drewN n) fun _ _ x => x
set_option maxHeartbeats 1000000 in
theorem at_no (b : Nat) (n : Nat) (i : Int) (w : World) (h : w.cell? ⟨b, 2, none⟩ = some (.int .i64 n)) (hi : i < 0 ∨ (n : Int) ≤ i) :
    Calls Try.prog 28 #[.pointer (some ⟨b, 0, none⟩), .int .i64 i] w fun e w' => e = .returned (.tuple #[.int .i64 0, .bool false]) ∧ w = w' := by
  have hlen := len_any b n w h
  have HL := Lib.hid hlen; clear hlen h
  by_cases h0 : i < 0
  · go_enter Try.func28, Try.ntmps28
    go_wp2
    go_ret2
    exact ⟨rfl, rfl⟩
  · have h1 : (n : Int) ≤ i := by omega
    go_enter Try.func28, Try.ntmps28
    go_wp2_with (go_at_call 26; (with_reducible refine HL.out.mono ?_); rintro e wq ⟨rfl, rfl⟩)
    go_ret2
    exact ⟨rfl, rfl⟩
set_option maxHeartbeats 1000000 in
theorem at_yes (b g m room first n : Nat) (V : Nat → Int) (i : Nat) (w : World) (h : RgV b g m room first n V w) (hi : i < n) :
    Calls Try.prog 28 #[.pointer (some ⟨b, 0, none⟩), .int .i64 i] w fun e w' => e = .returned (.tuple #[.int .i64 (V i), .bool true]) ∧ RgV b g m room first n V w' ∧ But Nob w w' := by
  have him : i < m := Nat.lt_of_lt_of_le hi h.hn
  have hlen := len_any b n w h.cells.2.2.1
  have hsl := slot_any b g m room first n V i w h him
  have HL := Lib.hid hlen; have HS := Lib.hid hsl; clear hlen hsl h
  have t1 : decide (n ≤ i) = false := by simp; omega
  have t2 : ¬ n ≤ i := by omega
  go_enter Try.func28, Try.ntmps28
  go_wp2_with (first
    | (go_at_call 26; (with_reducible refine HL.out.mono ?_); rintro e wq ⟨rfl, rfl⟩)
    | (go_at_call 59; (with_reducible refine HS.out.mono ?_); rintro e w1 ⟨rfl, hR, hG⟩; have hld := hR.load him))
  go_ret2
  exact ⟨rfl, hR, hG⟩
theorem at_nil (i : Int) (w : World) : Calls Try.prog 28 #[.pointer none, .int .i64 i] w fun e w' => e = .returned (.tuple #[.int .i64 0, .bool false]) ∧ w = w' := by
  have hlen := len_nil w
  have HL := Lib.hid hlen; clear hlen
  by_cases h0 : i < 0
  · go_enter Try.func28, Try.ntmps28
    go_wp2
    go_ret2
    exact ⟨rfl, rfl⟩
  · have h1 : 0 ≤ i := by omega
    go_enter Try.func28, Try.ntmps28
    go_wp2_with (go_at_call 26; (with_reducible refine HL.out.mono ?_); rintro e wq ⟨rfl, rfl⟩)
    go_ret2
    exact ⟨rfl, rfl⟩
/-- What At answers. -/
def AtP (b : Nat) (G : Option Nat) (l : List Int) (room : Nat) (i : Int) (w : World) (e : Ending) (w' : World) : Prop :=
  e = .returned (.tuple #[.int .i64 (if there l i then l[i.toNat]?.getD 0 else 0), .bool (there l i)]) ∧ Rg b G l room w' ∧ But Nob w w'
theorem at_any (b : Nat) (G : Option Nat) (l : List Int) (room : Nat) (i : Int) (w : World) (h : Rg b G l room w) :
    Calls Try.prog 28 #[.pointer (some ⟨b, 0, none⟩), .int .i64 i] w (AtP b G l room i w) := by
  by_cases hi : i < 0 ∨ (l.length : Int) ≤ i
  · refine (at_no b l.length i w h.head.1 hi).mono fun e w' ⟨he, hw⟩ => ?_
    have : there l i = false := by simp [there]; omega
    subst hw
    exact ⟨by rw [this]; exact he, h, But.refl _ _⟩
  · obtain ⟨k, rfl⟩ : ∃ k : Nat, i = k := ⟨i.toNat, by omega⟩
    rcases h with ⟨_, rfl, _, _⟩ | ⟨g, m, first, V, rfl, h, hV⟩
    · simp at hi
    · have hk : k < l.length := by omega
      refine (at_yes b g m room first l.length V k w h hk).mono fun e w' ⟨he, hR, hG⟩ => ⟨?_, .inr ⟨g, m, first, V, rfl, hR, hV⟩, hG⟩
      rw [he, hV k hk, there_yes hk]
      rfl
end Go.Proofs.Ytlgdeadghmbfmaa
