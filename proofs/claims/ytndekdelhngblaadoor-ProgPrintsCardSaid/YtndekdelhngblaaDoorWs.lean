/- prog's find at two names, parseReg at one register: what the laws' example asks. -/
import Derived.Test.YtndekdelhngblaaDoorWr
namespace Go.Proofs.YtndekdelhngblaaDoor
open Go.RowKit

theorem cut_is {s sep a b : List UInt8} {f : Bool} (h : Lib.cut s sep = (a, b, f)) (hs : s.length < 4294967281) (w : World) (hT : Tabs w) :
    Calls Tryd.prog 42 #[.string ⟨s.toArray⟩, .string ⟨sep.toArray⟩] w fun e w' => e = .returned (.tuple #[.string ⟨a.toArray⟩, .string ⟨b.toArray⟩, .bool f]) ∧ Below w.heap.size w w' := by
  obtain ⟨m, hm⟩ := hT.most
  refine (Tryd.strings_Cut ⟨s.toArray⟩ ⟨sep.toArray⟩ m w (by simpa [ByteArray.size] using hs) hm).mono ?_
  rintro e w' ⟨rfl, n, rfl⟩
  refine ⟨?_, ⟨rfl, rfl, rfl, Nat.le_refl _, fun _ _ => rfl⟩⟩
  simp only [h]
theorem bytes_below {w w' : World} (h : w' = w ∨ ∃ t, w' = Lib.bytesWorld w 5 t) : Below w.heap.size w w' := by
  rcases h with rfl | ⟨t, rfl⟩
  · exact Below.refl _ _
  · exact Lib.bytesWorld_below _ _ _
set_option maxHeartbeats 4000000 in
theorem find_13 (w : World) (hT : Tabs w) : Calls Tryd.prog 44 #[.string ⟨#[111, 117, 116]⟩] w fun e w' => e = .returned (.int .i64 13) ∧ w = w' := by
  have c1 : w.cell? ⟨0, 1, none⟩ = some (.string ⟨#[115, 101, 116]⟩) := hT.names 1 (by decide)
  have c2 : w.cell? ⟨0, 2, none⟩ = some (.string ⟨#[97, 100, 100]⟩) := hT.names 2 (by decide)
  have c3 : w.cell? ⟨0, 3, none⟩ = some (.string ⟨#[115, 117, 98]⟩) := hT.names 3 (by decide)
  have c4 : w.cell? ⟨0, 4, none⟩ = some (.string ⟨#[106, 117, 109, 112]⟩) := hT.names 4 (by decide)
  have c5 : w.cell? ⟨0, 5, none⟩ = some (.string ⟨#[106, 110, 122]⟩) := hT.names 5 (by decide)
  have c6 : w.cell? ⟨0, 6, none⟩ = some (.string ⟨#[121, 105, 101, 108, 100]⟩) := hT.names 6 (by decide)
  have c7 : w.cell? ⟨0, 7, none⟩ = some (.string ⟨#[115, 112, 97, 119, 110]⟩) := hT.names 7 (by decide)
  have c8 : w.cell? ⟨0, 8, none⟩ = some (.string ⟨#[106, 111, 105, 110]⟩) := hT.names 8 (by decide)
  have c9 : w.cell? ⟨0, 9, none⟩ = some (.string ⟨#[108, 111, 99, 107]⟩) := hT.names 9 (by decide)
  have c10 : w.cell? ⟨0, 10, none⟩ = some (.string ⟨#[117, 110, 108, 111, 99, 107]⟩) := hT.names 10 (by decide)
  have c11 : w.cell? ⟨0, 11, none⟩ = some (.string ⟨#[115, 108, 101, 101, 112]⟩) := hT.names 11 (by decide)
  have c12 : w.cell? ⟨0, 12, none⟩ = some (.string ⟨#[109, 97, 115, 107]⟩) := hT.names 12 (by decide)
  have c13 : w.cell? ⟨0, 13, none⟩ = some (.string ⟨#[111, 117, 116]⟩) := hT.names 13 (by decide)
  clear hT
  go_enter Tryd.func44, Tryd.ntmps44
  go_wp2
  go_loop [3] (fun i => i = .int .i64 1 ∨ i = .int .i64 2 ∨ i = .int .i64 3 ∨ i = .int .i64 4 ∨ i = .int .i64 5 ∨ i = .int .i64 6 ∨ i = .int .i64 7 ∨ i = .int .i64 8 ∨ i = .int .i64 9 ∨ i = .int .i64 10 ∨ i = .int .i64 11 ∨ i = .int .i64 12 ∨ i = .int .i64 13) (fun i => 20 - (intOf i).toNat)
  case atStart => exact .inl rfl
  case round =>
    rcases hrel with rfl | rfl | rfl | rfl | rfl | rfl | rfl | rfl | rfl | rfl | rfl | rfl | rfl
    · go_wp2
      go_round
      case rel => exact (.inr (.inl rfl))
      case measure => decide
    · go_wp2
      go_round
      case rel => exact (.inr (.inr (.inl rfl)))
      case measure => decide
    · go_wp2
      go_round
      case rel => exact (.inr (.inr (.inr (.inl rfl))))
      case measure => decide
    · go_wp2
      go_round
      case rel => exact (.inr (.inr (.inr (.inr (.inl rfl)))))
      case measure => decide
    · go_wp2
      go_round
      case rel => exact (.inr (.inr (.inr (.inr (.inr (.inl rfl))))))
      case measure => decide
    · go_wp2
      go_round
      case rel => exact (.inr (.inr (.inr (.inr (.inr (.inr (.inl rfl)))))))
      case measure => decide
    · go_wp2
      go_round
      case rel => exact (.inr (.inr (.inr (.inr (.inr (.inr (.inr (.inl rfl))))))))
      case measure => decide
    · go_wp2
      go_round
      case rel => exact (.inr (.inr (.inr (.inr (.inr (.inr (.inr (.inr (.inl rfl)))))))))
      case measure => decide
    · go_wp2
      go_round
      case rel => exact (.inr (.inr (.inr (.inr (.inr (.inr (.inr (.inr (.inr (.inl rfl))))))))))
      case measure => decide
    · go_wp2
      go_round
      case rel => exact (.inr (.inr (.inr (.inr (.inr (.inr (.inr (.inr (.inr (.inr (.inl rfl)))))))))))
      case measure => decide
    · go_wp2
      go_round
      case rel => exact (.inr (.inr (.inr (.inr (.inr (.inr (.inr (.inr (.inr (.inr (.inr (.inl rfl))))))))))))
      case measure => decide
    · go_wp2
      go_round
      case rel => exact (.inr (.inr (.inr (.inr (.inr (.inr (.inr (.inr (.inr (.inr (.inr (.inr rfl))))))))))))
      case measure => decide
    · go_wp2
      go_ret
      exact ⟨rfl, rfl⟩
set_option maxHeartbeats 4000000 in
theorem find_14 (w : World) (hT : Tabs w) : Calls Tryd.prog 44 #[.string ⟨#[101, 120, 105, 116]⟩] w fun e w' => e = .returned (.int .i64 14) ∧ w = w' := by
  have c1 : w.cell? ⟨0, 1, none⟩ = some (.string ⟨#[115, 101, 116]⟩) := hT.names 1 (by decide)
  have c2 : w.cell? ⟨0, 2, none⟩ = some (.string ⟨#[97, 100, 100]⟩) := hT.names 2 (by decide)
  have c3 : w.cell? ⟨0, 3, none⟩ = some (.string ⟨#[115, 117, 98]⟩) := hT.names 3 (by decide)
  have c4 : w.cell? ⟨0, 4, none⟩ = some (.string ⟨#[106, 117, 109, 112]⟩) := hT.names 4 (by decide)
  have c5 : w.cell? ⟨0, 5, none⟩ = some (.string ⟨#[106, 110, 122]⟩) := hT.names 5 (by decide)
  have c6 : w.cell? ⟨0, 6, none⟩ = some (.string ⟨#[121, 105, 101, 108, 100]⟩) := hT.names 6 (by decide)
  have c7 : w.cell? ⟨0, 7, none⟩ = some (.string ⟨#[115, 112, 97, 119, 110]⟩) := hT.names 7 (by decide)
  have c8 : w.cell? ⟨0, 8, none⟩ = some (.string ⟨#[106, 111, 105, 110]⟩) := hT.names 8 (by decide)
  have c9 : w.cell? ⟨0, 9, none⟩ = some (.string ⟨#[108, 111, 99, 107]⟩) := hT.names 9 (by decide)
  have c10 : w.cell? ⟨0, 10, none⟩ = some (.string ⟨#[117, 110, 108, 111, 99, 107]⟩) := hT.names 10 (by decide)
  have c11 : w.cell? ⟨0, 11, none⟩ = some (.string ⟨#[115, 108, 101, 101, 112]⟩) := hT.names 11 (by decide)
  have c12 : w.cell? ⟨0, 12, none⟩ = some (.string ⟨#[109, 97, 115, 107]⟩) := hT.names 12 (by decide)
  have c13 : w.cell? ⟨0, 13, none⟩ = some (.string ⟨#[111, 117, 116]⟩) := hT.names 13 (by decide)
  have c14 : w.cell? ⟨0, 14, none⟩ = some (.string ⟨#[101, 120, 105, 116]⟩) := hT.names 14 (by decide)
  clear hT
  go_enter Tryd.func44, Tryd.ntmps44
  go_wp2
  go_loop [3] (fun i => i = .int .i64 1 ∨ i = .int .i64 2 ∨ i = .int .i64 3 ∨ i = .int .i64 4 ∨ i = .int .i64 5 ∨ i = .int .i64 6 ∨ i = .int .i64 7 ∨ i = .int .i64 8 ∨ i = .int .i64 9 ∨ i = .int .i64 10 ∨ i = .int .i64 11 ∨ i = .int .i64 12 ∨ i = .int .i64 13 ∨ i = .int .i64 14) (fun i => 20 - (intOf i).toNat)
  case atStart => exact .inl rfl
  case round =>
    rcases hrel with rfl | rfl | rfl | rfl | rfl | rfl | rfl | rfl | rfl | rfl | rfl | rfl | rfl | rfl
    · go_wp2
      go_round
      case rel => exact (.inr (.inl rfl))
      case measure => decide
    · go_wp2
      go_round
      case rel => exact (.inr (.inr (.inl rfl)))
      case measure => decide
    · go_wp2
      go_round
      case rel => exact (.inr (.inr (.inr (.inl rfl))))
      case measure => decide
    · go_wp2
      go_round
      case rel => exact (.inr (.inr (.inr (.inr (.inl rfl)))))
      case measure => decide
    · go_wp2
      go_round
      case rel => exact (.inr (.inr (.inr (.inr (.inr (.inl rfl))))))
      case measure => decide
    · go_wp2
      go_round
      case rel => exact (.inr (.inr (.inr (.inr (.inr (.inr (.inl rfl)))))))
      case measure => decide
    · go_wp2
      go_round
      case rel => exact (.inr (.inr (.inr (.inr (.inr (.inr (.inr (.inl rfl))))))))
      case measure => decide
    · go_wp2
      go_round
      case rel => exact (.inr (.inr (.inr (.inr (.inr (.inr (.inr (.inr (.inl rfl)))))))))
      case measure => decide
    · go_wp2
      go_round
      case rel => exact (.inr (.inr (.inr (.inr (.inr (.inr (.inr (.inr (.inr (.inl rfl))))))))))
      case measure => decide
    · go_wp2
      go_round
      case rel => exact (.inr (.inr (.inr (.inr (.inr (.inr (.inr (.inr (.inr (.inr (.inl rfl)))))))))))
      case measure => decide
    · go_wp2
      go_round
      case rel => exact (.inr (.inr (.inr (.inr (.inr (.inr (.inr (.inr (.inr (.inr (.inr (.inl rfl))))))))))))
      case measure => decide
    · go_wp2
      go_round
      case rel => exact (.inr (.inr (.inr (.inr (.inr (.inr (.inr (.inr (.inr (.inr (.inr (.inr (.inl rfl)))))))))))))
      case measure => decide
    · go_wp2
      go_round
      case rel => exact (.inr (.inr (.inr (.inr (.inr (.inr (.inr (.inr (.inr (.inr (.inr (.inr (.inr rfl)))))))))))))
      case measure => decide
    · go_wp2
      go_ret
      exact ⟨rfl, rfl⟩
set_option maxHeartbeats 4000000 in
theorem parseReg_r0 (w : World) (hT : Tabs w) : Calls Tryd.prog 45 #[.string ⟨#[114, 48]⟩] w fun e w' => e = .returned (.tuple #[.int .i64 0, .string ⟨#[]⟩]) ∧ Below w.heap.size w w' := by
  have HC := Lib.hid (cut_is (s := [114, 48]) (sep := [32]) (a := [114, 48]) (b := []) (f := false) (by decide) (by decide) w hT)
  have HP : Hid (∀ W, Calls Tryd.prog 43 #[.string ⟨#[114, 48]⟩, .string ⟨#[114]⟩] W fun e w' => e = .returned (.string ⟨#[48]⟩) ∧ W = w') := fun W => by
    refine (Tryd.strings_TrimPrefix ⟨#[114, 48]⟩ ⟨#[114]⟩ W).mono ?_
    rintro e w' ⟨rfl, rfl⟩
    exact ⟨by rw [show Lib.trimPrefix (⟨#[114, 48]⟩ : ByteArray).data.toList (⟨#[114]⟩ : ByteArray).data.toList = [48] from by decide], rfl⟩
  have HA : Hid (∀ W, Calls Tryd.prog 56 #[.string ⟨#[48]⟩] W fun e w' => e = .returned (.tuple #[.int .i64 0, .nilIface]) ∧ Below W.heap.size W w') := fun W =>
    (Tryd.strconv_Atoi_ok ⟨#[48]⟩ (by decide) 0 (by decide) W).mono fun e w' ⟨q, h⟩ => ⟨q, bytes_below h⟩
  clear hT
  go_enter Tryd.func45, Tryd.ntmps45
  go_wp2_with (first
    | (go_at_call 42; (with_reducible refine HC.out.mono ?_); rintro e w4 ⟨rfl, h4⟩; have H4 := Lib.hid h4; clear h4)
    | (go_at_call 43; (with_reducible refine (HP.out _).mono ?_); rintro e wq ⟨rfl, rfl⟩)
    | (go_at_call 56; (with_reducible refine (HA.out _).mono ?_); rintro e w5 ⟨rfl, h5⟩; have H5 := Lib.hid h5; clear h5))
  go_ret2
  exact ⟨rfl, H4.out.trans (H5.out.mono H4.out.size)⟩
end Go.Proofs.YtndekdelhngblaaDoor
