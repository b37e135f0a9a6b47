/- Rows of numbers of a call's own; rows held against each other (as in XLn, XMg, XMh of tpl8p). -/
import Derived.Test.YtekahmfchpgmfaaRu
import Derived.Deep.OwnRows
import Derived.Deep.DeepCutAuto
import Derived.OwnWalk
namespace Go.Proofs.Ytekahmfchpgmfaa
open Go.RowKit

/-- A call that gave v, and left what lies below B. -/
def GotB (B : Nat) (v : Value) (w : World) (e : Ending) (w' : World) : Prop := e = .returned v ∧ Below B w w'

theorem haltM {p : Prop} (h : Hid p) : p := h.out
theorem below_drewN {B : Nat} {a w : World} (h : Below B a w) (n : Nat) : Below B a (w.drewN n) := ⟨h.os, h.tape, h.output, h.size, h.block⟩
/-- A slice's numbers. -/
def NumsIn (w : World) (A : Option Addr) (l : List Int) : Prop :=
  ∀ i x, l[i]? = some x → ∃ b off, A = some ⟨b, off, none⟩ ∧ b < w.heap.size ∧ w.cell? ⟨b, off + i, none⟩ = some (.int .i64 x)
theorem NumsIn.below {w w' : World} {A : Option Addr} {l : List Int} (h : NumsIn w A l) (hb : Below w.heap.size w w') : NumsIn w' A l := fun i x hx => by
  obtain ⟨b, off, e, hlt, h0⟩ := h i x hx
  exact ⟨b, off, e, Nat.lt_of_lt_of_le hlt hb.size, (hb.cell (p := ⟨b, _, none⟩) hlt).trans h0⟩
def numC (l : List Int) : List Value := l.map (Value.int .i64)
theorem numC_length (l : List Int) : (numC l).length = l.length := by simp [numC]
/-- A row of numbers of the call's own, from block B on. -/
def MineN (B : Nat) (v : Value) (L : List Int) (W : World) : Prop := W.ownsRow B 3 1 v L.length (numC L)
theorem mineN_nil (B : Nat) (W : World) : MineN B (.slice none 0 0) [] W := ⟨rfl, .inl ⟨rfl, rfl⟩⟩
theorem MineN.on {B : Nat} {v : Value} {L : List Int} {w w' : World} (h : MineN B v L w) (hb : Below w.heap.size w w') : MineN B v L w' := by
  refine ⟨h.1, ?_⟩
  rcases h.2 with hn | ⟨g, cap, cur, rfl, hbb, hgg, rest⟩
  · exact .inl hn
  · exact .inr ⟨g, cap, cur, rfl, hbb, (hb.block g (Array.getElem?_eq_some_iff.1 hgg).1).trans hgg, rest⟩
theorem MineN.nums {B : Nat} {v : Value} {L : List Int} {w : World} (h : MineN B v L w) : ∃ A cap, v = .slice A L.length cap ∧ NumsIn w A L := by
  have hc := h
  rcases h.2 with ⟨rfl, hn⟩ | ⟨g, cap, cur, rfl, hg, hh, hcap, _⟩
  · have : L = [] := by simpa [numC] using hn
    subst this
    exact ⟨none, 0, rfl, fun i x hx => by simp at hx⟩
  · refine ⟨some ⟨g, 0, none⟩, cap, rfl, fun i x hx => ⟨g, 0, rfl, (hc.lt g rfl).2, ?_⟩⟩
    have := hc.cells (g := g) rfl i (.int .i64 x) (by simp [numC, hx])
    have hadd : (⟨g, 0, none⟩ : Addr).add i = ⟨g, 0 + i, none⟩ := by unfold Addr.add; split <;> simp_all
    rw [hadd] at this
    exact this
theorem app_mine {ops : Array Oper} {rest : List Oper} {o : Oper} {a : Act} {W : World} {Q : Exit → Act → World → Prop} (hgd : o.guard = none) (s x : Operand) (ho : o.op = .call { callee := .builtin .append, args := #[s, x], argTypes := #[55, 55] })
    (B : Nat) (v : Value) (L : List Int) (hs : a.eval s = v) (hown : MineN B v L W) (g1 : Nat) (y : Int) (hx : a.eval x = .slice (some ⟨g1, 0, none⟩) 1 1) (hb : W.cell? ⟨g1, 0, none⟩ = some (.int .i64 y)) (hl : L.length ≤ 10000) (hB : B ≤ W.heap.size)
    (h : ∀ v' w', MineN B v' (L ++ [y]) w' → Below B W w' → wpList Try.prog ops Q rest (a.put o.dst v') w') : wpList Try.prog ops Q (o :: rest) a W := by
  obtain ⟨i0, hi0, hz0, hz1, hz2⟩ := info_parts infoInt
  refine wpList_append_own W hgd s x 55 ho B 3 i0 _ 1 8 Try.underlying55 hi0 hz0 hz1 hz2 rfl (by decide) _ L.length (numC L) hs hown ⟨g1, 0, none⟩ 1 1 (numC [y]) hx (by simp [numC]) ?_ (by intro u hu; simp [numC] at hu; rcases hu with rfl; rfl) (by unfold maxLen; omega) (by omega) hB ?_
  · intro j u hu
    match j, hu with
    | 0, hu =>
      have hadd : (⟨g1, 0, none⟩ : Addr).add 0 = ⟨g1, 0, none⟩ := by unfold Addr.add; split <;> simp_all
      rw [hadd, hb]; simpa [numC] using hu
    | j + 1, hu => simp [numC] at hu
  · intro v' w' own gr _
    refine h v' w' ?_ ((Below.refl _ _).grown gr hB (fun k hk => (hown.lt k hk).1))
    unfold MineN
    rw [List.length_append, show numC (L ++ [y]) = numC L ++ numC [y] by simp [numC]]
    exact own
theorem MineN.wider {B B' : Nat} {v : Value} {L : List Int} {w : World} (h : MineN B' v L w) (hB : B ≤ B') : MineN B v L w := by
  refine ⟨h.1, ?_⟩
  rcases h.2 with hn | ⟨g, cp, cur, e, hbb, rest⟩
  · exact .inl hn
  · exact .inr ⟨g, cp, cur, e, Nat.le_trans hB hbb, rest⟩
set_option maxRecDepth 100000 in
set_option maxHeartbeats 8000000 in
theorem same04_yes (A A' : Option Addr) (l : List Int) (cap cap' : Nat) (w : World) (hl : l.length ≤ 100000) (hI : NumsIn w A l) (hJ : NumsIn w A' l) :
    Calls Try.prog 37 #[.slice A l.length cap, .slice A' l.length cap'] w (GotB w.heap.size (.bool true) w) := by
  obtain ⟨n, hn⟩ : ∃ n, l.length = n := ⟨_, rfl⟩
  have HN := Lib.hid hn
  rw [hn] at hl ⊢
  have HI := Lib.hid hI; have HJ := Lib.hid hJ
  have t1 : ((n : Int) != (n : Int)) = false := by simp
  clear hI hJ hn
  go_enter Try.func37, Try.ntmps37
  go_wp2_with fail
  clear t1
  go_loopw [13] (fun i wr => ∃ k : Nat, k ≤ n ∧ i = .int .i64 k ∧ Below w.heap.size w wr) (fun i _ => n - (intOf i).toNat)
  case atStart => exact ⟨0, Nat.zero_le _, rfl, Below.refl _ _⟩
  case round =>
    obtain ⟨k, hk, rfl, hb⟩ := hrel
    have HB := Lib.hid hb
    by_cases hlt : k < n
    · obtain ⟨x, hx⟩ : ∃ x, l[k]? = some x := ⟨_, List.getElem?_eq_getElem (by rw [HN.out]; exact hlt)⟩
      obtain ⟨bb, off, rfl, -, c0⟩ := (HI.out.below hb) k x hx
      obtain ⟨bd, ofd, rfl, -, d0⟩ := (HJ.out.below hb) k x hx
      have k0 : (0 : Int) ≤ (k : Int) := by omega
      have k1 : (k : Int) < (n : Int) := by omega
      have t : (x != x) = false := by simp
      clear hx hb
      go_wp2_with fail
      go_quiet (fail)
      go_wp2_with fail
      go_roundw
      case rel => exact ⟨k + 1, by omega, by go_num, below_drewN HB.out _⟩
      case measure => simp [intOf]; omega
    · have t : ¬ (k : Int) < (n : Int) := by omega
      go_wp2_with fail
      go_ret
      exact ⟨rfl, HB.out⟩
end Go.Proofs.Ytekahmfchpgmfaa
