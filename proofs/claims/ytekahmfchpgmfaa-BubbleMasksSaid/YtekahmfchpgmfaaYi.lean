/- The document's Turn, whatever is asked (layer 13). -/
import Derived.Test.YtekahmfchpgmfaaYg
import Derived.Test.YtekahmfchpgmfaaYh
namespace Go.Proofs.Ytekahmfchpgmfaa
open Go.RowKit
set_option maxRecDepth 100000

section
variable {d : Value} {bs : List Bub} {w w' : World}
theorem checkE_no {b : Int} {zs : List Int} (h : inB bs b = false) : checkE bs b zs = 3 := by unfold checkE; rw [h]; rfl
theorem rturn_any (k : Nat) (hk : 2 ≤ k ∧ k ≤ 5) (b home : Int) (h : DocL d bs w) : Calls Try.prog 50 #[d, .int .i64 (k : Nat), .int .i64 b, .int .i64 home] w (RTurnP d bs k b home w) := by
  cases hi : inB bs b with
  | false =>
    have c1 := checkE_no (zs := [1]) hi; have c2 := checkE_no (zs := [2, 3]) hi; have c3 := checkE_no (zs := [3]) hi; have c4 := checkE_no (zs := [4]) hi
    have hE : turnE bs k b = 3 := by
      unfold turnE sealE placeE burstE regenE
      rw [c1, c2, c3, c4]
      split <;> (try rfl)
      split <;> (try rfl)
      split <;> rfl
    have hT : turnT bs k b home = bs := by
      unfold turnT sealT placeT burstT regenT sealE placeE burstE regenE
      rw [c1, c2, c3, c4]
      split <;> (try rfl)
      split <;> (try rfl)
      split <;> rfl
    exact rturn_none k b home h hi hE hT
  | true =>
    obtain ⟨i, x, rfl, hx⟩ := inB_nat hi
    have st := h.inv.st i x hx
    have hup := h.inv.up i x hx
    rcases (by omega : k = 2 ∨ k = 3 ∨ k = 4 ∨ k = 5) with rfl | rfl | rfl | rfl
    · by_cases hs : x.state = 1
      · exact rseal_ok home h hx hs
      · exact rseal_no home h hx hs
    · by_cases h2 : x.state = 2 ∨ x.state = 3
      · by_cases hu : x.up = -1
        · exact rplace_top home h hx h2 hu
        · have hpl : x.up.toNat < bs.length := by have := (List.getElem?_eq_some_iff.1 hx).1; omega
          obtain ⟨z, hz⟩ : ∃ z, bs[x.up.toNat]? = some z := ⟨_, List.getElem?_eq_getElem hpl⟩
          by_cases h4 : z.state = 4
          · exact rplace_in home h hx h2 (p := x.up.toNat) (by omega) hz h4
          · exact rplace_in_no home h hx h2 (p := x.up.toNat) (by omega) hz h4
      · exact rplace_no home h hx (fun q => h2 (.inl q)) (fun q => h2 (.inr q))
    · by_cases hs : x.state = 3
      · exact rburst_ok home h hx hs
      · exact rburst_no home h hx hs
    · by_cases hs : x.state = 4
      · exact rregen_ok home h hx hs
      · exact rregen_no home h hx hs
end
end Go.Proofs.Ytekahmfchpgmfaa
