/- A table's Join and Joined (layer 12). -/
import Derived.Test.YtdlncbndhljhfaaTb
import Derived.Test.YtdlncbndhljhfaaTm
namespace Go.Proofs.Ytdlncbndhljhfaa
open Go.RowKit

section
variable {b c gl gn room : Nat} {v : Value} {ts : List (List Value)} {ls : Nat → List Nat} {w : World}
set_option maxHeartbeats 2000000 in
theorem join_none {p : Option Addr} (i k : Int) (n : Nat) (hl : Calls Try.prog 23 #[.pointer p] w fun e w' => e = .returned (.int .i64 n) ∧ w = w') (h : inB i n = false ∨ inB k n = false) :
    Calls Try.prog 21 #[.pointer p, .int .i64 i, .int .i64 k] w fun e w' => e = .returned (.int .i64 3) ∧ w = w' := by
  have H1 := Lib.hid (has_of i n hl); have H2 := Lib.hid (has_of k n hl)
  clear hl
  cases hq : inB i n with
  | false =>
    rw [hq] at H1
    clear h H2
    go_enter Try.func21, Try.ntmps21
    go_wp2_with (go_at_call 49; (with_reducible refine H1.out.mono ?_); rintro e wq ⟨rfl, rfl⟩)
    go_ret
    exact ⟨rfl, rfl⟩
  | true =>
    have hk : inB k n = false := by rcases h with q | q; rw [hq] at q; cases q; exact q
    rw [hq] at H1; rw [hk] at H2
    clear h
    go_enter Try.func21, Try.ntmps21
    go_wp2_with (first
      | (go_at_call 49; (with_reducible refine H1.out.mono ?_); rintro e wq ⟨rfl, rfl⟩)
      | (go_at_call 49; (with_reducible refine H2.out.mono ?_); rintro e wq ⟨rfl, rfl⟩))
    go_ret
    exact ⟨rfl, rfl⟩
set_option maxHeartbeats 2000000 in
theorem join_same (i : Nat) (h : TabC b c gl gn v room ts ls w) (hi : i < ts.length) :
    Calls Try.prog 21 #[.pointer (some ⟨b, 0, none⟩), .int .i64 i, .int .i64 i] w fun e w' => e = .returned (.int .i64 1) ∧ w = w' := by
  have H1 := has_any (i : Int) h
  rw [inB_yes hi] at H1
  have H1 := Lib.hid H1
  have t : ((i : Int) == (i : Int)) = true := by simp
  clear h hi
  go_enter Try.func21, Try.ntmps21
  go_wp2_with (go_at_call 49; (with_reducible refine H1.out.mono ?_); rintro e wq ⟨rfl, rfl⟩)
  go_ret
  exact ⟨rfl, rfl⟩
set_option maxHeartbeats 2000000 in
theorem join_exited (i k : Nat) (x : List Value) (h : TabC b c gl gn v room ts ls w) (hi : i < ts.length) (hx : ts[k]? = some x) (hik : i ≠ k) (he : fld x 25 = 8) :
    Calls Try.prog 21 #[.pointer (some ⟨b, 0, none⟩), .int .i64 i, .int .i64 k] w fun e w' => e = .returned (.int .i64 5) ∧ w = w' := by
  have H1 := has_any (i : Int) h; have H2 := has_any (k : Int) h
  have hk := (List.getElem?_eq_some_iff.1 hx).1
  rw [inB_yes hi] at H1; rw [inB_yes hk] at H2
  have H1 := Lib.hid H1; have H2 := Lib.hid H2
  have HE := exited_any hx h
  rw [he, show ((8 : Int) == 8) = true from rfl] at HE
  have HE := Lib.hid HE
  have t : ((i : Int) == (k : Int)) = false := by simp; omega
  clear h hi hx hk he hik
  go_enter Try.func21, Try.ntmps21
  go_wp2_with (first
    | (go_at_call 49; (with_reducible refine H1.out.mono ?_); rintro e wq ⟨rfl, rfl⟩)
    | (go_at_call 49; (with_reducible refine H2.out.mono ?_); rintro e wq ⟨rfl, rfl⟩)
    | (go_at_call 50; (with_reducible refine HE.out.mono ?_); rintro e wq ⟨rfl, rfl⟩))
  go_ret
  exact ⟨rfl, rfl⟩
set_option maxHeartbeats 2000000 in
theorem join_go (i k : Nat) (x : List Value) (Q : Ending → World → Prop) (h : TabC b c gl gn v room ts ls w) (hi : i < ts.length) (hx : ts[k]? = some x) (hik : i ≠ k) (he : fld x 25 ≠ 8)
    (hp : Calls Try.prog 51 #[.pointer (some ⟨c, 0, none⟩), .int .i64 k, .int .i64 i] w fun e w' => ∃ n : Int, e = .returned (.int .i64 n) ∧ Q e w') :
    Calls Try.prog 21 #[.pointer (some ⟨b, 0, none⟩), .int .i64 i, .int .i64 k] w Q := by
  have H1 := has_any (i : Int) h; have H2 := has_any (k : Int) h
  have hk := (List.getElem?_eq_some_iff.1 hx).1
  rw [inB_yes hi] at H1; rw [inB_yes hk] at H2
  have H1 := Lib.hid H1; have H2 := Lib.hid H2; have HP := Lib.hid hp
  have HE := exited_any hx h
  rw [show (fld x 25 == 8) = false by simpa using he] at HE
  have HE := Lib.hid HE
  have t : ((i : Int) == (k : Int)) = false := by simp; omega
  obtain ⟨c0, -, -⟩ := h.cells
  clear h hi hx hk he hik hp
  go_enter Try.func21, Try.ntmps21
  go_wp2_with (first
    | (go_at_call 49; (with_reducible refine H1.out.mono ?_); rintro e wq ⟨rfl, rfl⟩)
    | (go_at_call 49; (with_reducible refine H2.out.mono ?_); rintro e wq ⟨rfl, rfl⟩)
    | (go_at_call 50; (with_reducible refine HE.out.mono ?_); rintro e wq ⟨rfl, rfl⟩)
    | (go_at_call 51; (with_reducible refine HP.out.mono ?_); rintro e w5 ⟨n, rfl, h5⟩; have H5 := Lib.hid h5; clear h5))
  exact H5.out
theorem TabC.chained {ls' : Nat → List Nat} {w' : World} (h : TabC b c gl gn v room ts ls w) (hc : Ch c gl gn room room ls' w') (hb : But (Own3 c gl gn) w w') : TabC b c gl gn v room ts ls' w' ∧ But (OwnT b c gl gn v) w w' :=
  ⟨⟨h.own.but hb h.ne, row_but h.row hb (fun g hg => (h.nev g hg).2), h.oks, hc, h.le, h.lim, h.ne, h.nev⟩, hb.mono fun _ _ q => .inr (.inl q)⟩
theorem join_twice (i k j : Nat) (x : List Value) (h : TabC b c gl gn v room ts ls w) (hi : i < ts.length) (hx : ts[k]? = some x) (hik : i ≠ k) (he : fld x 25 ≠ 8) (hj : j < room) (hm : i ∈ ls j) :
    Calls Try.prog 21 #[.pointer (some ⟨b, 0, none⟩), .int .i64 i, .int .i64 k] w fun e w' => e = .returned (.int .i64 9) ∧ w = w' := by
  have hk := (List.getElem?_eq_some_iff.1 hx).1
  have hl := h.le
  exact join_go i k x _ h hi hx hik he ((push_in k i j h.ch (by omega) hj hm).mono fun e w' ⟨he, hw⟩ => ⟨9, he, he, hw⟩)
theorem join_ok (i k : Nat) (x : List Value) (h : TabC b c gl gn v room ts ls w) (hi : i < ts.length) (hx : ts[k]? = some x) (hik : i ≠ k) (he : fld x 25 ≠ 8) (hm : ∀ j, j < room → i ∉ ls j) :
    Calls Try.prog 21 #[.pointer (some ⟨b, 0, none⟩), .int .i64 i, .int .i64 k] w fun e w' => e = .returned (.int .i64 0) ∧ TabC b c gl gn v room ts (updL ls k (ls k ++ [i])) w' ∧ But (OwnT b c gl gn v) w w' := by
  have hk := (List.getElem?_eq_some_iff.1 hx).1
  have hl := h.le
  exact join_go i k x _ h hi hx hik he ((push_ok k i h.ch (by omega) (by omega) hm).mono fun e w' ⟨he, hc, hb⟩ => ⟨0, he, he, (h.chained hc hb)⟩)
end
end Go.Proofs.Ytdlncbndhljhfaa
