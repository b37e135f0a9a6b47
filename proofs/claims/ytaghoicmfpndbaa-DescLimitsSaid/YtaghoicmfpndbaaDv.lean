/- The law file's lives and cut. -/
import Derived.Test.YtaghoicmfpndbaaDl
namespace Go.Proofs.Ytaghoicmfpndbaa
open Go.RowKit

def T0 : ByteArray := { data := #[100, 111, 109, 97, 105, 110, 32, 99, 48, 32, 99, 112, 117, 115, 32, 48, 45, 51, 44, 56, 59] }
def T1 : ByteArray := { data := #[97, 32, 65] }
theorem res_T0 : resR T0 = ([⟨1, 0, 6⟩, ⟨1, 7, 9⟩, ⟨1, 10, 14⟩, ⟨2, 15, 20⟩, ⟨3, 20, 21⟩], 0, 0) := by kernel_rfl
theorem res_T1 : resR T1 = ([], 20, 2) := by kernel_rfl
theorem ext_3 : T0.extract 15 20 = { data := #[48, 45, 51, 44, 56] } := by kernel_rfl
theorem ext_4 : T0.extract 20 21 = { data := #[59] } := by kernel_rfl
/-- A row of five tokens: the cells that are looked at. -/
theorem row_T0 {w : World} {B : Nat} {v : Value} (h : w.ownsRow B 33 5 v 5 (toksC T0 [⟨1, 0, 6⟩, ⟨1, 7, 9⟩, ⟨1, 10, 14⟩, ⟨2, 15, 20⟩, ⟨3, 20, 21⟩])) :
    ∃ g cap, v = .slice (some ⟨g, 0, none⟩) 5 cap ∧ B ≤ g ∧ g < w.heap.size ∧ 5 ≤ cap ∧ w.cell? ⟨g, 15, none⟩ = some (.int .i64 2) ∧ w.cell? ⟨g, 16, none⟩ = some (.string { data := #[48, 45, 51, 44, 56] }) ∧ w.cell? ⟨g, 21, none⟩ = some (.string { data := #[59] }) := by
  have hc := h
  rcases h.2 with ⟨-, hn⟩ | ⟨g, cap, cur, rfl, hg, hh, hcap, _⟩
  · omega
  · have key := hc.cells (g := g) rfl
    have hadd : ∀ j, (⟨g, 0, none⟩ : Addr).add j = ⟨g, j, none⟩ := fun j => by unfold Addr.add; split <;> simp_all
    have h15 := key 15 (.int .i64 2) (by simp [toksC, tokC])
    have h16 := key 16 (.string (T0.extract 15 20)) (by simp [toksC, tokC])
    have h21 := key 21 (.string (T0.extract 20 21)) (by simp [toksC, tokC])
    rw [hadd] at h15 h16 h21
    rw [ext_3] at h16
    rw [ext_4] at h21
    refine ⟨g, cap, rfl, hg, (hc.lt g rfl).2, hcap, h15, h16, h21⟩
set_option maxHeartbeats 1000000 in
theorem lives_any (w : World) :
    Calls Try.prog 13 #[] w fun e w' => e = .returned (.bool true) ∧ Below w.heap.size w w' := by
  have HA : Hid (∀ W, Calls Try.prog 9 #[.string { data := #[100, 111, 109, 97, 105, 110, 32, 99, 48, 32, 99, 112, 117, 115, 32, 48, 45, 51, 44, 56, 59] }] W fun e w' => ∃ g cap, e = .returned (.tuple #[.slice (some ⟨g, 0, none⟩) 5 cap, .int .i64 0, .agg #[.int .i64 0, .int .i64 0, .int .i64 0]]) ∧ g < w'.heap.size ∧ 5 ≤ cap ∧ w'.cell? ⟨g, 15, none⟩ = some (.int .i64 2) ∧ w'.cell? ⟨g, 16, none⟩ = some (.string { data := #[48, 45, 51, 44, 56] }) ∧ w'.cell? ⟨g, 21, none⟩ = some (.string { data := #[59] }) ∧ Below W.heap.size W w') := fun W => by
    have := all_any T0 W (by decide)
    rw [res_T0] at this
    refine this.mono fun e w' ⟨v, he, ho, hb⟩ => ?_
    obtain ⟨g, cap, rfl, h1, h2, h3, h4, h5, h6⟩ := row_T0 ho
    exact ⟨g, cap, he, h2, h3, h4, h5, h6, hb⟩
  have HB : Hid (∀ W, Calls Try.prog 9 #[.string { data := #[97, 32, 65] }] W fun e w' => ∃ v, e = .returned (.tuple #[v, .int .i64 20, .agg #[.int .i64 2, .int .i64 1, .int .i64 3]]) ∧ Below W.heap.size W w') := fun W => by
    have := all_any T1 W (by decide)
    rw [res_T1] at this
    refine this.mono fun e w' ⟨v, he, ho, hb⟩ => ⟨v, he.trans ?_, hb⟩
    have : plV T1 ([], 20, 2) = .agg #[.int .i64 2, .int .i64 1, .int .i64 3] := by kernel_rfl
    rw [this] <;> rfl
  go_enter Try.func13, Try.ntmps13
  go_wp2_with fail
  refine (HA.out _).mono ?_
  rintro e w1 ⟨g, cap, rfl, hlt, hcap, c0, c1, c2, h1⟩
  have C := Lib.hid (And.intro c0 (And.intro c1 c2)); have H1 := Lib.hid h1
  clear c0 c1 c2 h1
  go_wp2_with fail
  refine (HB.out _).mono ?_
  rintro e w2 ⟨v, rfl, h2⟩
  have lift : ∀ (o : Nat) (x : Value), w1.cell? ⟨g, o, none⟩ = some x → (w2.alloc (.cells #[.int .i64 2, .int .i64 1, .int .i64 3] 26)).cell? ⟨g, o, none⟩ = some x := fun o x hx => by
    have z : g < w2.heap.size := Nat.lt_of_lt_of_le (by simp; omega) h2.size
    have e1 := World.cell?_of_block (a := ⟨g, o, none⟩) (Below.heap_alloc w2 (.cells #[.int .i64 2, .int .i64 1, .int .i64 3] 26) g z)
    have e2 := World.cell?_of_block (a := ⟨g, o, none⟩) (h2.block g (by simp; omega))
    have e3 := World.cell?_of_block (a := ⟨g, o, none⟩) (Below.heap_alloc w1 (.cells #[.int .i64 0, .int .i64 0, .int .i64 0] 26) g hlt)
    rw [e1, e2, e3, hx]
  have c0 := lift _ _ C.out.1; have c1 := lift _ _ C.out.2.1; have c2 := lift _ _ C.out.2.2
  have B2 := Lib.hid ((H1.out.trans (((Below.refl w1.heap.size w1).alloc (Nat.le_refl _) (.cells #[.int .i64 0, .int .i64 0, .int .i64 0] 26)).mono H1.out.size)).trans (h2.mono (by have := H1.out.size; simp; omega)))
  have z2 := h2.size
  clear lift C H1 h2
  go_wp2_with fail
  go_ret
  exact ⟨rfl, B2.out.alloc B2.out.size _⟩
end Go.Proofs.Ytaghoicmfpndbaa
