/- ExecSplits' walk. -/
import Derived.Test.YtdjdmkgiidbnnaaDoorS1
namespace Go.Proofs.YtdjdmkgiidbnnaaDoor
open Go.RowKit

set_option maxRecDepth 100000 in
set_option maxHeartbeats 4000000 in
theorem splits10_any (prio : Int) (A : Option Addr) (l : List I4) (cap : Nat) (r : R4) (x y : Nat) (w : World) (hT : Tabs w) (hI : InsIn w A l) (hr : r.Ok) :
    Calls Tryd.prog 6 #[.agg #[.int .i64 prio, .slice A l.length cap], regV r, .agg #[.int .u64 x, .int .u64 y]] w (GotB w.heap.size (.bool true) w) := by
  have h2 := P2.new hT prio A l.length cap r
  have b3 : Below _ _ (((w.alloc (.cells #[.int .i64 prio, .slice A l.length cap] 24)).alloc (.cells #[.int .i32 r.a, .int .i32 r.b, .int .i32 r.c, .int .i32 r.d] 25)).alloc (.cells #[.int .u64 x, .int .u64 y] 42)) := (Below.refl _ _).alloc (Nat.le_refl _) _
  have h3 := h2.on b3
  have hn := Blk.new ((w.alloc (.cells #[.int .i64 prio, .slice A l.length cap] 24)).alloc (.cells #[.int .i32 r.a, .int .i32 r.b, .int .i32 r.c, .int .i32 r.d] 25)) 42 #[.int .u64 x, .int .u64 y]
  simp only [World.size_alloc] at hn
  have HSP : Hid (∀ W, P2 w W prio A l.length cap r → Calls Tryd.prog 16 #[.agg #[.int .i64 prio, .slice A l.length cap], regV r, .int .i64 ((x : Int) % 100), .int .i64 ((y : Int) % 100)] W (GotB W.heap.size (.bool true) W)) := fun W h => by
    have := splits_any prio A l cap r (x % 100) (y % 100) W (Nat.mod_lt _ (by decide)) (Nat.mod_lt _ (by decide)) h.tabs (hI.below h.below) hr
    rwa [show ((x % 100 : Nat) : Int) = (x : Int) % 100 by omega, show ((y % 100 : Nat) : Int) = (y : Int) % 100 by omega] at this
  have HL := Lib.hid (lives10_any _ h3.tabs)
  have H3 := Lib.hid h3; have HN := Lib.hid hn
  clear h2 b3 h3 hn hT hI hr
  generalize l.length = N at *
  go_enter Tryd.func6, Tryd.ntmps6
  go_wp2_with fail
  refine HL.out.mono ?_
  rintro e w2 ⟨rfl, h2⟩
  have Q2 := Lib.hid (H3.out.on h2)
  have q0 := (HN.out.below h2 HN.out.lt).cell 0; have q1 := (HN.out.below h2 HN.out.lt).cell 1
  simp only [List.getElem?_toArray, List.getElem?_cons_zero, List.getElem?_cons_succ] at q0 q1
  clear h2 H3 HN HL
  obtain ⟨x0, x1, x2, x3, x4, x5, x6⟩ := Q2.out.cells
  go_wp2_with fail
  refine (HSP.out w2 Q2.out).mono ?_
  rintro e w3 ⟨rfl, h3⟩
  have H3 := Lib.hid h3
  clear h3
  dsimp only
  go_wp2_with fail
  go_ret
  exact ⟨rfl, Q2.out.below.trans (H3.out.mono Q2.out.below.size)⟩
end Go.Proofs.YtdjdmkgiidbnnaaDoor
