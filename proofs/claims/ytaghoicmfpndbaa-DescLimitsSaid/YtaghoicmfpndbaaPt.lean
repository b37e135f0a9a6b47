/- The contract of desc.Print. -/
import Derived.Test.YtaghoicmfpndbaaJo
import Derived.Lib.AppendStr
import Derived.Lib.BufferRead
import Derived.Laws.IdiomStrings
namespace Go.Proofs.Ytaghoicmfpndbaa
open Go.RowKit

/-- The bytes of the i-th token. -/
def fT (s : ByteArray) (l : List Tok) (i : Nat) : List UInt8 := match l[i]? with | some t => bytesT s t | none => []
theorem fT_eq (s : ByteArray) (l : List Tok) (i : Nat) (h : i < l.length) : fT s l i = bytesT s l[i] := by
  unfold fT; rw [List.getElem?_eq_getElem h]
theorem fT_str (s : ByteArray) (l : List Tok) (i : Nat) (h : i < l.length) : s.extract (l[i]).a (l[i]).e = ⟨(fT s l i).toArray⟩ := by
  rw [fT_eq s l i h]; unfold bytesT; rw [Array.toArray_toList]
theorem infoByte : (Try.prog.info? 5).map (fun i => (i.zero, i.size, i.bytes)) = some (some (.int .u8 0), 1, 1) := by kernel_rfl
theorem conv_own {w : World} {B : Nat} {v : Value} {l : List UInt8} (h : w.ownsRow B 5 1 v l.length (Lib.byteCells l)) : (convert 39 9 v).run Try.prog w = .ok (.string ⟨l.toArray⟩) w := by
  rcases h.2 with ⟨rfl, hn⟩ | ⟨g, cap, cur, rfl, hg, hh, hc⟩
  · have : l = [] := List.eq_nil_of_length_eq_zero hn
    subst this
    exact Lib.run_convert_nil_bytes w _ _ _ 0 Try.underlying39 Try.underlying5 Try.underlying9
  · refine run_convert_bytes_back w _ _ _ ⟨g, 0, none⟩ cap l Try.underlying39 Try.underlying5 Try.underlying9 fun j hj => ?_
    have := h.cells (g := g) rfl j (.int .u8 (l[j].toNat : Int)) (by simp [Lib.byteCells, hj])
    exact this
theorem byte_form {w : World} {B n : Nat} {v : Value} {xs : List Value} (h : w.ownsRow B 5 1 v n xs) : ∃ a cap, v = .slice a n cap := by
  rcases h.2 with ⟨rfl, rfl⟩ | ⟨g, cap, cur, rfl, _⟩
  · exact ⟨none, 0, rfl⟩
  · exact ⟨_, cap, rfl⟩
theorem cells_app (a b : List UInt8) : Lib.byteCells a ++ Lib.byteCells b = Lib.byteCells (a ++ b) := by simp [Lib.byteCells]
theorem byte_app {w : World} {B : Nat} {v : Value} {a b : List UInt8} (h : w.ownsRow B 5 1 v (a.length + b.length) (Lib.byteCells a ++ Lib.byteCells b)) : w.ownsRow B 5 1 v (a ++ b).length (Lib.byteCells (a ++ b)) := by
  rw [cells_app] at h; rwa [List.length_append]
theorem strCells_eq (a : List UInt8) : Lib.strCells ⟨a.toArray⟩ = Lib.byteCells a := by simp [Lib.strCells, Lib.byteCells]
/-- A row of tokens that is given: what is read of it. -/
def RowT (w : World) (ad : Option Addr) (s : ByteArray) (l : List Tok) : Prop := ∀ i (hi : i < l.length), ∃ g, ad = some ⟨g, 0, none⟩ ∧ g < w.heap.size ∧
      w.cell? ⟨g, i * 5, none⟩ = some (.int .i64 (l[i]).kind) ∧ w.cell? ⟨g, i * 5 + 1, none⟩ = some (.string (s.extract (l[i]).a (l[i]).e)) ∧
      w.cell? ⟨g, i * 5 + 2, none⟩ = some (.int .i64 (l[i]).a) ∧ w.cell? ⟨g, i * 5 + 3, none⟩ = some (.int .i64 (lineA (byteAt s) (l[i]).a)) ∧ w.cell? ⟨g, i * 5 + 4, none⟩ = some (.int .i64 (colA (byteAt s) (l[i]).a))
theorem RowT.below {w w' : World} {ad : Option Addr} {s : ByteArray} {l : List Tok} (h : RowT w ad s l) (hb : Below w.heap.size w w') : RowT w' ad s l := fun i hi => by
  obtain ⟨g, h0, h1, h2, h3, h4, h5, h6⟩ := h i hi
  exact ⟨g, h0, Nat.lt_of_lt_of_le h1 hb.size, (hb.cell (p := ⟨g, _, none⟩) h1).trans h2, (hb.cell (p := ⟨g, _, none⟩) h1).trans h3, (hb.cell (p := ⟨g, _, none⟩) h1).trans h4, (hb.cell (p := ⟨g, _, none⟩) h1).trans h5, (hb.cell (p := ⟨g, _, none⟩) h1).trans h6⟩
set_option maxHeartbeats 2000000 in
theorem print_any (s : ByteArray) (l : List Tok) (ad : Option Addr) (cap : Nat) (w : World) (hrow : RowT w ad s l) (hlen : (accK (fT s l) l.length).length ≤ 100000) (hll : l.length ≤ 100000) :
    Calls Try.prog 19 #[.slice ad l.length cap] w fun e w' => e = .returned (.string ⟨(accK (fT s l) l.length).toArray⟩) ∧ Below w.heap.size w w' := by
  have ROW := Lib.hid hrow; clear hrow
  go_enter Try.func19, Try.ntmps19
  go_wp2_with fail
  go_loopg [3, 8] l.length (fun g v x wx => ∃ k, k ≤ l.length ∧ g = l.length - k ∧ x = .int .i64 k ∧ wx.ownsRow w.heap.size 5 1 v (accK (fT s l) k).length (Lib.byteCells (accK (fT s l) k)) ∧ Below w.heap.size w wx)
  case atStart => exact ⟨0, by omega, by omega, rfl, World.ownsRow_nil _ _ _ _, Below.refl _ _⟩
  case round =>
    obtain ⟨k, hk, hg, hx, hown, hb⟩ := hrel
    have HG := Lib.hid hg; clear hg
    subst hx
    by_cases hlt : k < l.length
    · obtain ⟨g, hga, hgl, a0, a1, a2, a3, a4⟩ := ROW.out k hlt
      subst hga
      rw [fT_str s l k hlt] at a1
      rw [← hb.cell (p := ⟨g, _, none⟩) hgl] at a0 a1 a2 a3 a4
      have hacc : accK (fT s l) (k + 1) = (if 0 < k then accK (fT s l) k ++ [32] else accK (fT s l) k) ++ fT s l k := rfl
      have hle := accK_le (fT s l) (k + 1) l.length (by omega)
      have HACC := Lib.hid hacc; clear hacc
      generalize (l[k]).kind = kd at *
      generalize (l[k]).a = A at *
      generalize lineA (byteAt s) A = li at *
      generalize colA (byteAt s) A = co at *
      have hsz : (ByteArray.mk (fT s l k).toArray).size = (fT s l k).length := size_mk _
      have HSZ := Lib.hid hsz
      have HLE := Lib.hid hle; clear hsz hle
      obtain ⟨i0, hi0, hz0, hz1, hz2⟩ := info_parts infoByte
      obtain ⟨av, cv, hv⟩ := byte_form hown
      subst hv
      have OW := Lib.hid hown
      have hrowb : ∀ b, (Value.slice av (accK (fT s l) k).length cv).ownBlock = some b → w.heap.size ≤ b ∧ b < wr.heap.size := fun b e => hown.lt b e
      have HRB := Lib.hid hrowb
      have TK := Lib.hid (tk_new wr (.int .i64 kd) (.string ⟨(fT s l k).toArray⟩) (.int .i64 A) (.int .i64 li) (.int .i64 co))
      have hzw := hb.size
      have HB := Lib.hid hb
      clear hrowb hown hb
      by_cases h0 : 0 < k
      · have d0 : decide (0 < k) = true := by simp; omega
        have ha2 := HACC.out
        rw [if_pos h0] at ha2
        have HA2 := Lib.hid ha2; clear ha2
        have hl1 : (accK (fT s l) k).length + 1 + (fT s l k).length ≤ 100000 := by
          have := HLE.out; rw [HA2.out] at this; simp only [List.length_append, List.length_cons, List.length_nil] at this; omega
        go_wp2_with (at_builtin; refine wpList_append_own _ rfl (.tmp 15) (.tmp 16) 39 rfl w.heap.size 5 i0 (.int .u8 0) 1 1 Try.underlying39 hi0 hz0 hz1 hz2 rfl (by decide) _ _ _ rfl ((OW.out.alloc _).alloc _) ⟨wr.heap.size + 1, 0, none⟩ 1 1 [.int .u8 32] rfl rfl ?_ ?_ ?_ ?_ ?_ ?_)
        · have hb := heap_alloc_new (wr.alloc (.cells #[.int .i64 kd, .string ⟨(fT s l k).toArray⟩, .int .i64 A, .int .i64 li, .int .i64 co] 33)) (.cells #[.int .u8 32] 5)
          rw [World.size_alloc] at hb
          exact World.news_of_block hb
        · intro u hu; simp at hu; subst hu; rfl
        · unfold maxLen; omega
        · omega
        · simp; omega
        intro v2 w2 own2 g2 _
        have O2 := Lib.hid (byte_app (b := [32]) own2)
        have T2 : Tk wr.heap.size (.int .i64 kd) (.string ⟨(fT s l k).toArray⟩) (.int .i64 A) (.int .i64 li) (.int .i64 co) w2 := by
          have hT1 := tk_old TK.out (by simp) (.cells #[.int .u8 32] 5)
          exact (g2.block wr.heap.size (by simp; omega) (fun e => by have := (HRB.out _ e.symm).2; omega)).trans hT1
        have B2 := Lib.hid (Below.grown ((HB.out.alloc hzw (.cells #[.int .i64 kd, .string ⟨(fT s l k).toArray⟩, .int .i64 A, .int .i64 li, .int .i64 co] 33)).alloc (by simp; omega) (.cells #[.int .u8 32] 5)) g2 (by simp; omega) (fun b hb => (HRB.out b hb).1))
        have hz2' := B2.out.size
        obtain ⟨x0, x1, x2, x3, x4, -⟩ := T2.cells
        clear x0 x2 x3 x4 T2 own2 g2
        go_wp2_with (at_builtin; refine Lib.wpList_append_own_string _ rfl (.tmp 18) (.tmp 20) 39 9 rfl w.heap.size 5 i0 Try.underlying39 Try.underlying9 hi0 hz0 hz1 hz2 _ _ _ rfl O2.out _ rfl ?_ ?_ ?_ ?_)
        · rw [HSZ.out]; unfold maxLen; simp; omega
        · rw [HSZ.out]; simp; omega
        · omega
        intro v3 w3 own3 g3 _
        rw [strCells_eq, show (accK (fT s l) k).length + 1 = (accK (fT s l) k ++ [32]).length by simp] at own3
        have O3 : Hid (w3.ownsRow w.heap.size 5 1 v3 (accK (fT s l) (k + 1)).length (Lib.byteCells (accK (fT s l) (k + 1)))) := by rw [HA2.out]; exact byte_app own3
        have B3 := Lib.hid (Below.grown B2.out g3 hz2' (fun b hb => (O2.out.lt b hb).1))
        clear own3 g3 x1
        go_wp2_with fail
        go_roundg (l.length - (k + 1))
        case measure => have := HG.out; omega
        case rel => exact ⟨k + 1, by omega, rfl, by go_num, O3.out, B3.out⟩
      · have d0 : decide (0 < k) = false := by simp; omega
        have ha2 := HACC.out
        rw [if_neg h0] at ha2
        have HA2 := Lib.hid ha2; clear ha2
        have hl1 : (accK (fT s l) k).length + (fT s l k).length ≤ 100000 := by
          have := HLE.out; rw [HA2.out] at this; simp only [List.length_append] at this; omega
        obtain ⟨x0, x1, x2, x3, x4, -⟩ := TK.out.cells
        clear x0 x2 x3 x4
        go_wp2_with (at_builtin; refine Lib.wpList_append_own_string _ rfl (.tmp 18) (.tmp 20) 39 9 rfl w.heap.size 5 i0 Try.underlying39 Try.underlying9 hi0 hz0 hz1 hz2 _ _ _ rfl (OW.out.alloc _) _ rfl ?_ ?_ ?_ ?_)
        · rw [HSZ.out]; unfold maxLen; omega
        · rw [HSZ.out]; omega
        · simp; omega
        intro v3 w3 own3 g3 _
        rw [strCells_eq] at own3
        have O3 : Hid (w3.ownsRow w.heap.size 5 1 v3 (accK (fT s l) (k + 1)).length (Lib.byteCells (accK (fT s l) (k + 1)))) := by rw [HA2.out]; exact byte_app own3
        have B3 := Lib.hid (Below.grown (HB.out.alloc hzw (.cells #[.int .i64 kd, .string ⟨(fT s l k).toArray⟩, .int .i64 A, .int .i64 li, .int .i64 co] 33)) g3 (by simp; omega) (fun b hb => (HRB.out b hb).1))
        clear own3 g3 x1
        go_wp2_with fail
        go_roundg (l.length - (k + 1))
        case measure => have := HG.out; omega
        case rel => exact ⟨k + 1, by omega, rfl, by go_num, O3.out, B3.out⟩
    · obtain rfl : k = l.length := by omega
      have hcv := conv_own hown
      go_wp2_with fail
      go_ret
      exact ⟨rfl, hb⟩
end Go.Proofs.Ytaghoicmfpndbaa
