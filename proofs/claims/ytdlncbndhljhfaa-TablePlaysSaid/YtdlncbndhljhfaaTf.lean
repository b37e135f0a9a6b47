/- A table's Joined (layer 12). -/
import Derived.Test.YtdlncbndhljhfaaTe
namespace Go.Proofs.Ytdlncbndhljhfaa
open Go.RowKit

def asI (l : List Nat) : List Int := l.map fun x : Nat => (x : Int)
theorem asI_len (l : List Nat) : (asI l).length = l.length := by simp [asI]
def sliceLen : Value → Nat
  | .slice _ q _ => q
  | _ => 0
theorem mine_len {B : Nat} {v : Value} {L : List Int} {w : World} (h : MineN B v L w) : sliceLen v = L.length := by
  rcases h.2 with ⟨rfl, e⟩ | ⟨g, cp, cur, rfl, _⟩
  · exact e.symm
  · rfl
theorem But.low {B : Nat} {a w : World} (h : Below B a w) : But (fun k => B ≤ k) a w := ⟨h.os, h.tape, h.output, h.size, fun k _ hx => h.block k (by omega)⟩
section
variable {b c gl gn room : Nat} {v : Value} {ts : List (List Value)} {ls : Nat → List Nat} {w : World}
theorem tpop_any (k : Nat) (l : List Nat) (h : TabC b c gl gn v room ts ls w) (hk : k < room) (hl : ls k = l) :
    Calls Try.prog 52 #[.pointer (some ⟨c, 0, none⟩), .int .i64 k] w fun e w' => e = .returned (.tuple #[.int .i64 (hd l), .bool (!l.isEmpty)]) ∧ TabC b c gl gn v room ts (updL ls k l.tail) w' ∧ But (OwnT b c gl gn v) w w' := by
  cases l with
  | nil =>
    have hf := firstc_ok k h.ch hk
    rw [hl] at hf
    refine (pop_none (k : Int) hf).mono fun e w' ⟨he, hw⟩ => ⟨he, ?_, hw ▸ But.refl _ _⟩
    have : updL ls k ([] : List Nat).tail = ls := funext fun j => by
      unfold updL; split
      · rename_i e; subst e; exact hl.symm
      · rfl
    rw [this, ← hw]; exact h
  | cons x t => exact (pop_ok k x t h.ch hk hl).mono fun e w' ⟨he, hc, hb⟩ => ⟨he, h.chained hc hb⟩
set_option maxRecDepth 100000 in
set_option maxHeartbeats 8000000 in
theorem joined_any (k : Nat) (h : TabC b c gl gn v room ts ls w) (hk : k < ts.length) :
    Calls Try.prog 24 #[.pointer (some ⟨b, 0, none⟩), .int .i64 k] w fun e w' => ∃ u, e = .returned u ∧ MineN w.heap.size u (asI (ls k)) w' ∧ TabC b c gl gn v room ts (updL ls k []) w' ∧ But (OwnT b c gl gn v) w w' := by
  have hkr : k < room := by have := h.le; omega
  have hll := h.ch.len_le hkr
  have hlim := h.lim
  have H1 := has_any (k : Int) h
  rw [inB_yes hk] at H1
  have H1 := Lib.hid H1
  obtain ⟨l, hl⟩ : ∃ l, ls k = l := ⟨_, rfl⟩
  rw [hl] at hll ⊢
  have HP := Lib.hid (tpop_any k l h hkr hl)
  have HLT : Hid (∀ j, OwnT b c gl gn v j → j < w.heap.size) := fun j hj => h.lt hj
  have HKR := Lib.hid hkr
  have HU : Hid (∀ l1 l2 : List Nat, updL (updL ls k l1) k l2 = updL ls k l2) := fun l1 l2 => funext fun j => by
    unfold updL; split <;> rfl
  obtain ⟨c0, -, -⟩ := h.cells
  obtain ⟨d0, hd0⟩ : ∃ d, hd l = d := ⟨_, rfl⟩
  obtain ⟨e0, he0⟩ : ∃ e, (!l.isEmpty) = e := ⟨_, rfl⟩
  rw [hd0, he0] at HP
  have HD := Lib.hid hd0; have HE := Lib.hid he0
  clear h hk hl hkr hd0 he0
  go_enter Try.func24, Try.ntmps24
  go_wp2_with (first
    | (go_at_call 49; (with_reducible refine H1.out.mono ?_); rintro e wq ⟨rfl, rfl⟩)
    | (go_at_call 52; (with_reducible refine HP.out.mono ?_); rintro e w2 ⟨rfl, h2, b2⟩; have H2 := Lib.hid h2; have B2 := Lib.hid b2; clear h2 b2))
  clear c0 H1 HP
  go_loopw [5, 6, 7] (fun lv iv ov wr => ∃ (u : Value) (i : Nat), u = lv ∧ i ≤ l.length ∧ iv = .int .i64 (hd (l.drop i)) ∧ ov = .bool (!(l.drop i).isEmpty) ∧ MineN w.heap.size u (asI (l.take i)) wr ∧ TabC b c gl gn v room ts (updL ls k (l.drop i).tail) wr ∧ But (OwnT b c gl gn v) w wr) (fun lv _ _ _ => l.length - sliceLen lv)
  case atStart => exact ⟨_, 0, rfl, Nat.zero_le _, by rw [← HD.out]; rfl, by rw [← HE.out]; rfl, mineN_nil _ _, H2.out, B2.out⟩
  case round =>
    obtain ⟨u, i, rfl, hi, rfl, hov, hm, ht, hb⟩ := hrel
    have HM := Lib.hid hm; have HT := Lib.hid ht; have HB := Lib.hid hb
    clear hm ht hb H2 B2 HD HE
    by_cases hlt : i < l.length
    · obtain ⟨x, hx⟩ : ∃ x, l[i]? = some x := ⟨_, List.getElem?_eq_getElem hlt⟩
      have hx' := (List.getElem?_eq_some_iff.1 hx).2
      have hdr : l.drop i = x :: l.drop (i + 1) := by rw [List.drop_eq_getElem_cons hlt, hx']
      have hta : asI (l.take (i + 1)) = asI (l.take i) ++ [(x : Int)] := by rw [← List.take_append_getElem hlt, hx']; simp [asI]
      have hov' := hov.trans (show Value.bool (!(l.drop i).isEmpty) = .bool true by rw [hdr]; rfl)
      clear hov
      subst hov'
      rw [hdr, show hd (x :: l.drop (i + 1)) = (x : Int) from rfl]
      rw [hdr, show (x :: l.drop (i + 1)).tail = l.drop (i + 1) from rfl] at HT
      have HTA := Lib.hid hta
      have htl : (asI (l.take i)).length ≤ 10000 := by rw [asI_len, List.length_take]; omega
      have hbs := HB.out.size
      have ha : Below wr.heap.size wr (wr.alloc (.cells #[.int .i64 x] 3)) := (Below.refl _ _).alloc (Nat.le_refl _) _
      have HM8 := Lib.hid (HM.out.on ha)
      have HT8 := Lib.hid (HT.out.below ha)
      have HB8 := Lib.hid (HB.out.alloc (.cells #[.int .i64 x] 3))
      have hbk := (Blk.new wr 3 #[.int .i64 x]).cell 0
      simp only [List.getElem?_toArray, List.getElem?_cons_zero] at hbk
      have HBS := Lib.hid hbk
      clear ha hbk hx hx' hdr hta
      go_wp2_with (at_builtin; refine haltM ?_)
      refine Lib.hid ?_
      refine app_mine rfl (.tmp 31) (.tmp 33) rfl w.heap.size u (asI (l.take i)) rfl HM8.out _ x rfl HBS.out htl (by simp; omega) ?_
      intro u' w9 own9 b9
      have HM9 : Hid (MineN w.heap.size u' (asI (l.take (i + 1))) w9) := by
        show MineN _ _ _ _
        rw [HTA.out]; exact own9
      have ht9 := HT8.out.but (But.low b9) fun j hj q => by have := HLT.out j hj; omega
      have hb9 : But (OwnT b c gl gn v) w w9 := HB8.out.step (But.low b9) fun j hj q => by omega
      have HB9 := Lib.hid hb9
      have HP9 := Lib.hid (tpop_any k (l.drop (i + 1)) ht9 HKR.out (updL_same _ _ _))
      rw [HU.out] at HP9
      have c0 := ht9.cells.1
      have hln := mine_len HM9.out
      rw [asI_len, List.length_take] at hln
      have hlu := mine_len HM.out
      rw [asI_len, List.length_take] at hlu
      have HLN := Lib.hid hln; have HLU := Lib.hid hlu
      obtain ⟨d1, hd1⟩ : ∃ d, hd (l.drop (i + 1)) = d := ⟨_, rfl⟩
      obtain ⟨e1, he1⟩ : ∃ e, (!(l.drop (i + 1)).isEmpty) = e := ⟨_, rfl⟩
      rw [hd1, he1] at HP9
      have HD1 := Lib.hid hd1; have HE1 := Lib.hid he1
      clear own9 b9 HM8 HB8 HT8 HBS ht9 hb9 hd1 he1 hln hlu
      go_wp2_with (go_at_call 52; (with_reducible refine HP9.out.mono ?_); rintro e w10 ⟨rfl, h10, b10⟩; have H10 := Lib.hid h10; have B10 := Lib.hid b10; clear h10 b10)
      go_roundw
      case rel =>
        have hm10 : MineN w.heap.size u' (asI (l.take (i + 1))) w10 := row_but HM9.out B10.out fun g hg q => by
          have h1 := (HM9.out.lt g hg).1
          have h2 := HLT.out g q
          omega
        exact ⟨u', i + 1, rfl, hlt, by rw [HD1.out], by rw [HE1.out], hm10, H10.out, HB9.out.trans B10.out⟩
      case measure => rw [HLN.out, HLU.out]; omega
    · obtain rfl : i = l.length := by omega
      have hov' := hov.trans (show Value.bool (!(l.drop l.length).isEmpty) = .bool false by rw [List.drop_length]; rfl)
      clear hov
      subst hov'
      rw [List.take_length] at HM
      rw [List.drop_length] at HT
      go_wp2_with fail
      go_ret
      exact ⟨u, rfl, HM.out, HT.out, HB.out⟩
end
end Go.Proofs.Ytdlncbndhljhfaa
