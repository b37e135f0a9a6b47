/- A table's New and Add (layer 12). -/
import Derived.Test.YtdlncbndhljhfaaTb
import Derived.Test.YtdlncbndhljhfaaCk
import Derived.Deep.RegionHeld3
import Derived.Deep.AppendLies
namespace Go.Proofs.Ytdlncbndhljhfaa
open Go.RowKit

def nilS : Value := .slice none 0 0
set_option maxHeartbeats 2000000 in
theorem tnew_any (room : Int) (r : Nat) (hr : min (max room 0) 256 = (r : Int)) (w : World) :
    Calls Try.prog 10 #[.int .i64 room] w fun e w' => ∃ b c gl gn, e = .returned (.pointer (some ⟨b, 0, none⟩)) ∧ TabC b c gl gn (.slice none 0 0) r [] (fun _ => []) w' ∧ But Nob w w' ∧ ∀ k, OwnT b c gl gn (.slice none 0 0) k → w.heap.size ≤ k := by
  have HR := Lib.hid hr
  have hr2 : r ≤ 256 := by omega
  go_enter Try.func10, Try.ntmps10
  go_upto_region 1 with fail
  go_cut [0] (fun p wx => p = .int .i64 r ∧ wx = w)
  case first =>
    clear hr
    go_wp2_with fail
    all_goals
      go_meet
      have h1 := HR.out
      refine ⟨?_, rfl⟩
      first | rfl | (congr 1; omega) | (congr 1)
  case rest =>
    obtain ⟨rfl, hwx⟩ := hcut
    obtain rfl := hwx.symm
    clear hr
    have HN := Lib.hid (newc_raw (r : Int) (r : Int) r r (by omega) (by omega) w)
    go_wp2_with fail
    refine HN.out.mono ?_
    rintro e w2 ⟨c, gn, rfl, hm⟩
    dsimp only
    obtain ⟨gl, hch, hbut, hlt⟩ := mk_ch (by omega) (by omega) hm
    have HCH := Lib.hid hch; have HBU := Lib.hid hbut; have HLT := Lib.hid hlt
    clear hm hch hbut hlt HN
    go_wp2_with fail
    go_ret
    have hc := HCH.out.but (X := Nob) ((But.refl _ _).alloc (.cells #[.pointer (some ⟨c, 0, none⟩), .slice none 0 0, .int .i64 r] 88)) fun _ _ q => q
    refine ⟨w2.heap.size, c, gl, gn, rfl, ⟨Blk.new w2 _ _, World.ownsRow_nil _ _ _ _, fun x hx => by simp at hx, hc, Nat.zero_le _, hr2, fun q => by have := HCH.out.lt q; omega, fun g hg => by simp [Value.ownBlock] at hg⟩, HBU.out.alloc _, fun k hk => ?_⟩
    rcases hk with rfl | hk | hk
    · exact HBU.out.size
    · exact HLT.out k hk
    · simp [Value.ownBlock] at hk
end Go.Proofs.Ytdlncbndhljhfaa
