/- prog's line, printReg, printHead, printIns: the words of a line, a blank between two. -/
import Derived.Test.YtndekdelhngblaaDoorCc
import Derived.Test.YtndekdelhngblaaDoorShelf
import Derived.Lib.AppendIntMem
import Derived.Lib.ItoaLen
import Derived.Deep.DeepCutAuto
import Derived.Laws.AppendOwn
namespace Go.Proofs.YtndekdelhngblaaDoor
open Go.RowKit

theorem mk_app (A B : List UInt8) : ByteArray.mk A.toArray ++ ByteArray.mk B.toArray = ⟨(A ++ B).toArray⟩ := by
  rw [ByteArray.mk_append_mk]
theorem itoa_any (n : Int) (hn : In64 n) (w : World) (hT : Tabs w) : Calls Tryd.prog 37 #[.int .i64 n] w (GotB w.heap.size (.string ⟨(Lib.itoa n).toArray⟩) w) :=
  (Tryd.strconv_Itoa n hn.1 hn.2 w hT.pow).mono fun _ _ ⟨e, k, os, hw⟩ => ⟨e, by rw [hw]; exact Lib.below_grow _ _ (Nat.le_refl _) _ _⟩
theorem infoStr : (Tryd.prog.info? 9).map (fun i => (i.zero, i.size, i.bytes)) = some (some (.string ⟨#[]⟩), 1, 16) := by kernel_rfl
/-- A row of words of the call's own, from block B on. -/
def Own (B : Nat) (v : Value) (xs : List ByteArray) (w : World) : Prop := w.ownsRow B 9 1 v xs.length (xs.map Value.string)
theorem app_word {ops : Array Oper} {rest : List Oper} {o : Oper} {a : Act} {w : World} {Q : Exit → Act → World → Prop} (hgd : o.guard = none) (s x : Operand) (ho : o.op = .call { callee := .builtin .append, args := #[s, x], argTypes := #[48, 48] })
    (B : Nat) (v : Value) (xs : List ByteArray) (hs : a.eval s = v) (hown : Own B v xs w) (g : Nat) (y : ByteArray) (hx : a.eval x = .slice (some ⟨g, 0, none⟩) 1 1) (hc : w.cell? ⟨g, 0, none⟩ = some (.string y)) (hl : xs.length ≤ 1000) (hB : B ≤ w.heap.size)
    (h : ∀ v' w', Own B v' (xs ++ [y]) w' → Below B w w' → w.grownBy w' v.ownBlock → wpList Tryd.prog ops Q rest (a.put o.dst v') w') : wpList Tryd.prog ops Q (o :: rest) a w := by
  obtain ⟨i0, hi0, hz0, hz1, hz2⟩ := info_parts infoStr
  refine wpList_append_own w hgd s x 48 ho B 9 i0 (.string ⟨#[]⟩) 1 16 Tryd.underlying48 hi0 hz0 hz1 hz2 rfl (by decide) v xs.length (xs.map Value.string) hs hown ⟨g, 0, none⟩ 1 1 [.string y] hx (by simp) ?_ (by intro u hu; simp at hu; subst hu; rfl) (by unfold maxLen; omega) (by omega) hB ?_
  · intro j u hu
    match j, hu with
    | 0, hu => cases hu; exact hc
    | j + 1, hu => simp at hu
  · intro v' w' own gr _
    refine h v' w' ?_ ((Below.refl _ _).grown gr hB (fun k hk => (hown.lt k hk).1)) gr
    unfold Own
    rw [List.length_append, List.map_append]
    exact own
theorem own_cells {B : Nat} {v : Value} {xs : List ByteArray} {w : World} (h : Own B v xs w) (hne : xs ≠ []) : ∃ g c, v = .slice (some ⟨g, 0, none⟩) xs.length c ∧ xs.length ≤ c ∧ g < w.heap.size ∧ ∀ (j : Nat) x, xs[j]? = some x → w.cell? ⟨g, 0 + j, none⟩ = some (.string x) := by
  have hc := h
  rcases h.2 with ⟨rfl, hn⟩ | ⟨g, cap, cur, rfl, hg, hh, hcap, _⟩
  · exact absurd (List.eq_nil_of_length_eq_zero hn) hne
  · refine ⟨g, cap, rfl, hcap, (hc.lt g rfl).2, fun j x hx => ?_⟩
    have := hc.cells (g := g) rfl j (.string x) (by rw [List.getElem?_map, hx]; rfl)
    have hadd : (⟨g, 0, none⟩ : Addr).add j = ⟨g, 0 + j, none⟩ := by unfold Addr.add; split <;> simp_all
    rwa [hadd] at this
def wordsL (xs : List ByteArray) : List UInt8 := Lib.join (xs.map (·.data.toList)) [32]
set_option maxHeartbeats 1000000 in
theorem line_any (B : Nat) (v : Value) (xs : List ByteArray) (w : World) (h : Own B v xs w) (hne : xs ≠ []) (hN : xs.length ≤ 1000) (hlen : (wordsL xs).length ≤ 100000) :
    Calls Tryd.prog 36 #[v] w (GotB w.heap.size (.string ⟨(wordsL xs).toArray⟩) w) := by
  obtain ⟨g, c, rfl, hc, hg, hcells⟩ := own_cells h hne
  have HJ := Lib.hid (Tryd.strings_Join g 0 c xs ⟨#[32]⟩ w hcells hg (by omega) hc (by unfold wordsL at hlen; exact Nat.le_trans hlen (by omega)))
  clear h hcells
  go_enter Tryd.func36, Tryd.ntmps36
  go_wp2_with (go_at_call 49; (with_reducible refine HJ.out.mono ?_); rintro e w4 ⟨rfl, h4⟩; have H4 := Lib.hid h4; clear h4)
  go_ret
  exact ⟨rfl, H4.out⟩
set_option maxHeartbeats 1000000 in
theorem printReg_any (r : Int) (hr : In64 r) (w : World) (hT : Tabs w) : Calls Tryd.prog 38 #[.int .i64 r] w (GotB w.heap.size (.string ⟨(114 :: Lib.itoa r).toArray⟩) w) := by
  have HI := Lib.hid (itoa_any r hr w hT)
  have e : (⟨#[114]⟩ : ByteArray) ++ ⟨(Lib.itoa r).toArray⟩ = ⟨(114 :: Lib.itoa r).toArray⟩ := mk_app [114] _
  have E := Lib.hid e
  have hs : ¬ 9223372036854775807 < 1 + (Lib.itoa r).length := by have := Lib.itoa_length_le r hr.1 hr.2; omega
  clear hT e
  go_enter Tryd.func38, Tryd.ntmps38
  go_wp2_with (go_at_call 37; (with_reducible refine HI.out.mono ?_); rintro e w4 ⟨rfl, h4⟩; have H4 := Lib.hid h4; clear h4)
  rw [E.out]
  go_ret
  exact ⟨rfl, H4.out⟩
theorem own_new (B : Nat) (w : World) (xs : List ByteArray) (h : xs.length ≤ 100) (hB : B ≤ w.heap.size) : Own B (.slice (some ⟨w.heap.size, 0, none⟩) xs.length xs.length) xs (w.alloc (.cells (xs.map Value.string).toArray 9)) :=
  ⟨by simp, .inr ⟨w.heap.size, xs.length, _, rfl, hB, heap_alloc_new w _, Nat.le_refl _, by unfold maxLen; omega, by simp, by rw [Nat.mul_one]; exact List.take_of_length_le (by simp)⟩⟩
theorem wordsL_one (x : ByteArray) : wordsL [x] = x.data.toList := by simp [wordsL, Lib.join_one]
theorem wordsL_cons (x y : ByteArray) (r : List ByteArray) : wordsL (x :: y :: r) = x.data.toList ++ 32 :: wordsL (y :: r) := by
  unfold wordsL
  rw [List.map_cons, List.map_cons, Lib.join_cons, Lib.join_cons]
  simp [Lib.joinTail]
set_option maxHeartbeats 1000000 in
theorem printHead_any (r : Int) (hr : In64 r) (w : World) (hT : Tabs w) : Calls Tryd.prog 22 #[.int .i64 r] w (GotB w.heap.size (.string ⟨(headL r).toArray⟩) w) := by
  have HI := Lib.hid (itoa_any r hr w hT)
  have hs := Lib.itoa_length_le r hr.1 hr.2
  have e : wordsL [⟨#[112, 114, 111, 103]⟩, ⟨(Lib.itoa r).toArray⟩] = headL r := by rw [wordsL_cons, wordsL_one]; simp [headL]
  have HS := Lib.hid hs; have E := Lib.hid e
  clear hT hs e
  go_enter Tryd.func22, Tryd.ntmps22
  go_wp2_with (go_at_call 37; (with_reducible refine HI.out.mono ?_); rintro e w4 ⟨rfl, h4⟩; have H4 := Lib.hid h4; clear h4)
  refine (line_any 0 _ [⟨#[112, 114, 111, 103]⟩, ⟨(Lib.itoa r).toArray⟩] _ (own_new 0 w4 [⟨#[112, 114, 111, 103]⟩, ⟨(Lib.itoa r).toArray⟩] (by simp) (Nat.zero_le _)) (by simp) (by simp) (by rw [E.out]; unfold headL; have := HS.out; simp; omega)).mono ?_
  rintro e w5 ⟨rfl, h5⟩
  rw [E.out]
  have H5 := Lib.hid h5; clear h5
  go_wp2_with fail
  go_ret
  exact ⟨rfl, (H4.out.alloc H4.out.size _).trans (H5.out.mono (by have := H4.out.size; simp; omega))⟩
def regW (r : Int) : ByteArray := ⟨(114 :: Lib.itoa r).toArray⟩
def numW (n : Int) : ByteArray := ⟨(Lib.itoa n).toArray⟩
def nameW (op : Int) : ByteArray := ⟨(9 :: nameL op).toArray⟩
def wsA (x : I4) : List ByteArray := [nameW x.op] ++ (if hasA x.op then [regW x.a] else [])
def wsB (x : I4) : List ByteArray := wsA x ++ (if hasB x.op then [regW x.b] else [])
def wsN (x : I4) : List ByteArray := wsB x ++ (if hasN x.op then [numW x.n] else [])
theorem ws_line (x : I4) : wordsL (wsN x) = lineL x := by
  unfold wsN wsB wsA lineL insL
  cases hasA x.op <;> cases hasB x.op <;> cases hasN x.op <;> simp [wordsL_one, wordsL_cons, nameW, regW, numW]
theorem ws_len (x : I4) : (wsA x).length ≤ 2 ∧ (wsB x).length ≤ 3 ∧ (wsN x).length ≤ 4 ∧ wsN x ≠ [] := by
  unfold wsN wsB wsA
  cases hasA x.op <;> cases hasB x.op <;> cases hasN x.op <;> simp
theorem line_len (x : I4) (h : Fits x) : (lineL x).length ≤ 100 := by
  have h1 := Lib.itoa_length_le x.a h.a.1 h.a.2
  have h2 := Lib.itoa_length_le x.b h.b.1 h.b.2
  have h3 := Lib.itoa_length_le x.n (by have := h.n; omega) (by have := h.n; omega)
  have h4 := nameL_len x.op
  unfold lineL insL
  cases hasA x.op <;> cases hasB x.op <;> cases hasN x.op <;> simp <;> omega
end Go.Proofs.YtndekdelhngblaaDoor
