/- A ring that a law made: its calls, with what was there before the law kept; the law file's lives. -/
import Derived.Test.YtlgdeadghmbfmaaRk
namespace Go.Proofs.Ytlgdeadghmbfmaa
open Go.RowKit

/-- A ring made since w0; what was there then is as it was. -/
def Lg (w0 : World) (b : Nat) (l : List Int) (room : Nat) (w : World) : Prop :=
  ∃ G, Rg b G l room w ∧ (∀ k, Own2 b G k → w0.heap.size ≤ k) ∧ Below w0.heap.size w0 w
theorem Lg.head {w0 : World} {b : Nat} {l : List Int} {room : Nat} {w : World} (h : Lg w0 b l room w) : w.cell? ⟨b, 2, none⟩ = some (.int .i64 l.length) := let ⟨_, h, _⟩ := h; h.head.1
theorem Lg.room_le {w0 : World} {b : Nat} {l : List Int} {room : Nat} {w : World} (h : Lg w0 b l room w) : room ≤ 4096 := let ⟨_, h, _⟩ := h; h.room_le
theorem Lg.below {w0 : World} {b : Nat} {l : List Int} {room : Nat} {w : World} (h : Lg w0 b l room w) : Below w0.heap.size w0 w := let ⟨_, _, _, h⟩ := h; h
theorem Lg.step {w0 : World} {b : Nat} {G : Option Nat} {w w' : World} (hk : ∀ k, Own2 b G k → w0.heap.size ≤ k) (hb : Below w0.heap.size w0 w) (h : But (Own2 b G) w w') : Below w0.heap.size w0 w' :=
  hb.trans (h.below hb.size fun k _ x => hk k x)
theorem own2_none {n B : Nat} (h : B ≤ n) : ∀ k, Own2 n none k → B ≤ k := by
  intro k hk
  rcases hk with rfl | hk
  · exact h
  · cases hk
theorem new_lg (room : Int) (R : Nat) (hR : min (max room 0) 4096 = (R : Int)) (w0 w : World) (hb : Below w0.heap.size w0 w) :
    Calls Try.prog 15 #[.int .i64 room] w fun e w' => e = .returned (.pointer (some ⟨w.heap.size, 0, none⟩)) ∧ Lg w0 w.heap.size [] R w' :=
  (new_any room R hR w).mono fun _ _ ⟨he, h, hg⟩ => ⟨he, none, h, own2_none hb.size, Lg.step (own2_none hb.size) hb hg.nob⟩
theorem put_lg {w0 w : World} {b : Nat} {G : Option Nat} {l' : List Int} {room : Nat} (hk : ∀ k, Own2 b G k → w0.heap.size ≤ k) (hb : Below w0.heap.size w0 w) {e : Ending} {w' : World} (h : PutP b G l' room w e w') : e = .returned (.bool true) ∧ Lg w0 b l' room w' := by
  obtain ⟨he, g, hR, hg, hG⟩ := h
  refine ⟨he, some g, hR, fun k q => ?_, Lg.step hk hb hG⟩
  rcases q with rfl | q
  · exact hk _ (.inl rfl)
  · cases q
    rcases hg with hg | hg
    · exact hk _ hg
    · have := hb.size; omega
theorem back_lg {w0 w : World} {b : Nat} {l : List Int} {room : Nat} (x : Int) (h : Lg w0 b l room w) (hr : l.length < room) :
    Calls Try.prog 21 #[.pointer (some ⟨b, 0, none⟩), .int .i64 x] w fun e w' => e = .returned (.bool true) ∧ Lg w0 b (l ++ [x]) room w' := by
  obtain ⟨G, h, hk, hb⟩ := h
  exact (back_ok b G l room x w h hr).mono fun e w' q => put_lg hk hb q
theorem front_lg {w0 w : World} {b : Nat} {l : List Int} {room : Nat} (x : Int) (h : Lg w0 b l room w) (hr : l.length < room) :
    Calls Try.prog 22 #[.pointer (some ⟨b, 0, none⟩), .int .i64 x] w fun e w' => e = .returned (.bool true) ∧ Lg w0 b (x :: l) room w' := by
  obtain ⟨G, h, hk, hb⟩ := h
  exact (front_ok b G l room x w h hr).mono fun e w' q => put_lg hk hb q
theorem back_lg_bad {w0 w : World} {b : Nat} {l : List Int} {room : Nat} (x : Int) (h : Lg w0 b l room w) (hr : l.length = room) :
    Calls Try.prog 21 #[.pointer (some ⟨b, 0, none⟩), .int .i64 x] w fun e w' => e = .returned (.bool false) ∧ w = w' := by
  obtain ⟨G, h, hk, hb⟩ := h; subst hr
  exact back_bad b G l x w h
theorem front_lg_bad {w0 w : World} {b : Nat} {l : List Int} {room : Nat} (x : Int) (h : Lg w0 b l room w) (hr : l.length = room) :
    Calls Try.prog 22 #[.pointer (some ⟨b, 0, none⟩), .int .i64 x] w fun e w' => e = .returned (.bool false) ∧ w = w' := by
  obtain ⟨G, h, hk, hb⟩ := h; subst hr
  exact front_bad b G l x w h
theorem put_lg_bad {w0 w : World} {b : Nat} {l : List Int} {room : Nat} (i x : Int) (h : Lg w0 b l room w) (hr : l.length = room) :
    Calls Try.prog 23 #[.pointer (some ⟨b, 0, none⟩), .int .i64 i, .int .i64 x] w fun e w' => e = .returned (.bool false) ∧ w = w' := by
  obtain ⟨G, h, hk, hb⟩ := h
  exact put_bad b G l room i x w h (.inr (.inr hr))
theorem first_lg {w0 w : World} {b : Nat} {x : Int} {l : List Int} {room : Nat} (h : Lg w0 b (x :: l) room w) :
    Calls Try.prog 24 #[.pointer (some ⟨b, 0, none⟩)] w fun e w' => e = .returned (.tuple #[.int .i64 x, .bool true]) ∧ Lg w0 b l room w' := by
  obtain ⟨G, h, hk, hb⟩ := h
  exact (first_ok b G x l room w h).mono fun e w' ⟨he, q, hg⟩ => ⟨he, G, q, hk, Lg.step hk hb hg⟩
theorem last_lg {w0 w : World} {b : Nat} {x : Int} {l : List Int} {room : Nat} (h : Lg w0 b (l ++ [x]) room w) :
    Calls Try.prog 25 #[.pointer (some ⟨b, 0, none⟩)] w fun e w' => e = .returned (.tuple #[.int .i64 x, .bool true]) ∧ Lg w0 b l room w' := by
  obtain ⟨G, h, hk, hb⟩ := h
  exact (last_ok b G x l room w h).mono fun e w' ⟨he, q, hg⟩ => ⟨he, G, q, hk, Lg.step hk hb hg⟩
set_option maxRecDepth 100000 in
set_option maxHeartbeats 1000000 in
theorem lives5_any (w : World) : Calls Try.prog 20 #[] w fun e w' => e = .returned (.bool true) ∧ Below w.heap.size w w' := by
  have HN := Lib.hid (new_lg 2 2 (by decide) w w (Below.refl _ _))
  go_enter Try.func20, Try.ntmps20
  go_wp2_with fail
  refine HN.out.mono ?_
  rintro e w1 ⟨rfl, h1⟩
  have H1 := Lib.hid h1; clear h1 HN
  go_wp2_with fail
  refine (back_lg 1 H1.out (by decide)).mono ?_
  rintro e w2 ⟨rfl, h2⟩
  have H2 := Lib.hid h2; clear h2 H1
  go_wp2_with fail
  refine (back_lg 2 H2.out (by decide)).mono ?_
  rintro e w3 ⟨rfl, h3⟩
  have H3 := Lib.hid h3; clear h3 H2
  go_wp2_with fail
  refine (back_lg_bad 3 H3.out rfl).mono ?_
  rintro e w4 ⟨rfl, rfl⟩
  go_wp2_with fail
  refine (first_lg (x := 1) (l := [2]) H3.out).mono ?_
  rintro e w5 ⟨rfl, h5⟩
  have H5 := Lib.hid h5; clear h5 H3
  go_wp2_with fail
  refine (front_lg 4 H5.out (by decide)).mono ?_
  rintro e w6 ⟨rfl, h6⟩
  have H6 := Lib.hid h6; clear h6 H5
  go_wp2_with fail
  refine (last_lg (x := 2) (l := [4]) H6.out).mono ?_
  rintro e w7 ⟨rfl, h7⟩
  have H7 := Lib.hid h7; clear h7 H6
  go_wp2_with fail
  go_ret
  exact ⟨rfl, H7.out.below⟩
end Go.Proofs.Ytlgdeadghmbfmaa
