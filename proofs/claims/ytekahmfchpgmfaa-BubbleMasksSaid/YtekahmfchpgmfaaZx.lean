/- A forest's Get of a bubble that there is (layer 13). -/
import Derived.Test.YtekahmfchpgmfaaZp
namespace Go.Proofs.Ytekahmfchpgmfaa
open Go.RowKit
set_option maxRecDepth 100000

section
variable {fb : Nat} {v : Value} {bs : List Bub} {w w' : World}
theorem fget_no (b : Int) (h : ForC fb v bs w) (hb : inB bs b = false) : Calls Try.prog 9 #[.pointer (some ⟨fb, 0, none⟩), .int .i64 b] w (GotB w.heap.size (.tuple #[.agg (bubL zB).toArray, .bool false]) w) :=
  fget_out b w fun W hW => by
    have := fhas_any b (h.below hW)
    rwa [hb] at this
set_option maxHeartbeats 4000000 in
theorem fget_at {i : Nat} {x : Bub} (hx : bs[i]? = some x) (h : ForC fb v bs w) : Calls Try.prog 9 #[.pointer (some ⟨fb, 0, none⟩), .int .i64 i] w (GotB w.heap.size (.tuple #[.agg (bubL x).toArray, .bool true]) w) := by
  have hB : Below w.heap.size w (w.alloc (.cells (bubL zB).toArray 30)) := (Below.refl _ _).alloc (Nat.le_refl _) _
  have hB' : Below w.heap.size w (w.alloc (.cells (bubL x).toArray 30)) := (Below.refl _ _).alloc (Nat.le_refl _) _
  have hF := h.below hB
  have HH := Lib.hid (fhas_any (i : Int) hF)
  rw [inB_of hx] at HH
  obtain ⟨g, cap, rfl, hr, -⟩ := row_at hF.row hx
  have c0 := hF.cell
  have i0 : (0 : Int) ≤ (i : Int) := by omega
  have i1 : (i : Int) < (bs.length : Int) := by have := (List.getElem?_eq_some_iff.1 hx).1; omega
  have hSl := bubL_len x
  have hSo := bubL_one x
  have HI : Hid ((Try.prog.info? 30).map (·.size) = some (bubL x).length) := Lib.hid (infoB.trans (congrArg some hSl.symm))
  have HR := Lib.hid hr; have HB' := Lib.hid hB'
  rw [zB_L] at HH HR c0
  have hl : (loadVar 30 ⟨w.heap.size, 0, none⟩).run Try.prog (w.alloc (.cells (bubL x).toArray 30)) = .ok (.agg (bubL x).toArray) (w.alloc (.cells (bubL x).toArray 30)) :=
    run_loadVar_mid _ w.heap.size 0 30 (bubL x) _ (blk_rangeB (Blk.new w _ _)) Try.underlying30 rfl (by rw [infoB, bubL_len])
  have HLD := Lib.hid hl
  clear h hB hB' hF hr hx hl
  generalize bubL x = S at *
  generalize bs.length = n at *
  have hst := run_storeCells_new (P := Try.prog) w 30 #[.int .i64 0, .int .u64 0, .int .u64 0, .int .u64 0, .int .u64 0, .int .u64 0, .int .u64 0, .int .u64 0, .int .u64 0, .int .u64 0, .int .u64 0, .int .u64 0, .int .u64 0, .int .u64 0, .int .u64 0, .int .u64 0, .int .u64 0, .int .i64 0, .int .i64 0] S.toArray (infoB.trans (congrArg some (by rw [List.size_toArray, hSl]))) (Eq.trans (show _ = 19 from rfl) (by rw [List.size_toArray, hSl])) (all_oneCell_toArray hSo)
  clear hSo
  go_enter Try.func9, Try.ntmps9
  go_wp2_with (first
    | (go_at_call 27; refine HH.out.mono ?_; rintro e wq ⟨rfl, rfl⟩)
    | (with_reducible (show wpList _ _ _ _ _ _); refine wpList_load_mid rfl 30 (.tmp 16) rfl g (i * 19) rfl S _ HR.out Try.underlying30 rfl HI.out ?_))
  have hl := HLD.out
  refine bodyPost_ret (v := .tuple #[.agg S.toArray, .bool true]) (by simp [results, Try.results9, asAddr, hl]) rfl ?_
  exact ⟨rfl, HB'.out⟩
end
end Go.Proofs.Ytekahmfchpgmfaa
