/- The document's lock: New; a call begins. -/
import Derived.Test.YtckdabokaelnoaaMy
import Derived.Test.YtckdabokaelnoaaMu
import Derived.Test.YtckdabokaelnoaaMc
import Derived.Deep.CutBlock
import Derived.StillTailTactics
import Derived.RegionCalls
import Derived.Deep.RegionHeld3
namespace Go.Proofs.Ytckdabokaelnoaa
open Go.RowKit

def R0 : Rf := ⟨-1, fun _ => -1, fun _ => false, fun _ => 0, fun _ => 0, fun _ => 0⟩
theorem infoBool : (Try.prog.info? 4).map (fun i => (i.zero, i.size, i.bytes)) = some (some (.bool false), 1, 1) := by kernel_rfl
theorem make_ints (N : Nat) (hN : N ≤ 100) : ∃ Z : Array Value, (∀ W : World, (Instr.makeSlice 46 (.int .i64 N) (.int .i64 N)).run Try.prog W = .ok (.slice (some ⟨W.heap.size, 0, none⟩) N N) (W.alloc (.cells Z 3))) ∧ Z.size = N ∧ ∀ i, i < N → Z[i]? = some (.int .i64 0) := by
  obtain ⟨i0, hi0, hz0, hz1, hz2⟩ := info_parts infoInt
  refine ⟨madeCells (Value.int IntKind.i64 0).cells N, fun W => ?_, by simp [madeCells], fun i hi => by simp [madeCells, Value.cells, hi, Nat.mod_one]⟩
  have := run_makeSlice (P := Try.prog) W 46 3 i0 (.int .i64 0) Try.underlying46 hi0 hz0 .i64 .i64 N N (by omega) (by omega) (by rw [hz1]; simp; omega) (by rw [hz2]; omega) (by omega)
  simp only [Int.toNat_natCast, hz1, Nat.mul_one] at this
  exact this
theorem make_bools (N : Nat) (hN : N ≤ 100) : ∃ Z : Array Value, (∀ W : World, (Instr.makeSlice 91 (.int .i64 N) (.int .i64 N)).run Try.prog W = .ok (.slice (some ⟨W.heap.size, 0, none⟩) N N) (W.alloc (.cells Z 4))) ∧ Z.size = N ∧ ∀ i, i < N → Z[i]? = some (.bool false) := by
  obtain ⟨i0, hi0, hz0, hz1, hz2⟩ := info_parts infoBool
  refine ⟨madeCells (Value.bool false).cells N, fun W => ?_, by simp [madeCells], fun i hi => by simp [madeCells, Value.cells, hi, Nat.mod_one]⟩
  have := run_makeSlice (P := Try.prog) W 91 4 i0 (.bool false) Try.underlying91 hi0 hz0 .i64 .i64 N N (by omega) (by omega) (by rw [hz1]; simp; omega) (by rw [hz2]; omega) (by omega)
  simp only [Int.toNat_natCast, hz1, Nat.mul_one] at this
  exact this
theorem blk_at {n : Nat} {t : TypeId} {cs : Array Value} (w : World) (h : n = w.heap.size) : Blk (w.alloc (.cells cs t)) n t cs := by subst h; exact Blk.new w t cs
theorem blk_drew {n : Nat} {t : TypeId} {cs : Array Value} {w : World} (h : Blk w n t cs) : Blk w.drew n t cs := h
theorem ints_of {g n : Nat} {Z : Array Value} {w : World} (h : Blk w g 3 Z) (h1 : Z.size = n) (h2 : ∀ i, i < n → Z[i]? = some (.int .i64 0)) : IntsB g n (fun _ => 0) w := ⟨Z, by omega, h2, h⟩
theorem bols_of {g n : Nat} {Z : Array Value} {w : World} (h : Blk w g 4 Z) (h1 : Z.size = n) (h2 : ∀ i, i < n → Z[i]? = some (.bool false)) : BolsB g n (fun _ => false) w := ⟨Z, by omega, h2, h⟩
/-- A row of numbers of the call's own. -/
def MineN (B : Nat) (v : Value) (L : List Int) (W : World) : Prop := W.ownsRow B 3 1 v L.length (numC L)
theorem app_mine {ops : Array Oper} {rest : List Oper} {o : Oper} {a : Act} {W : World} {Q : Exit → Act → World → Prop} (hgd : o.guard = none) (s x : Operand) (ho : o.op = .call { callee := .builtin .append, args := #[s, x], argTypes := #[46, 46] })
    (B : Nat) (v : Value) (L : List Int) (hs : a.eval s = v) (hown : MineN B v L W) (g1 : Nat) (y : Int) (hx : a.eval x = .slice (some ⟨g1, 0, none⟩) 1 1) (hb : W.cell? ⟨g1, 0, none⟩ = some (.int .i64 y)) (hl : L.length ≤ 10000) (hB : B ≤ W.heap.size)
    (h : ∀ v' w', MineN B v' (L ++ [y]) w' → Below B W w' → wpList Try.prog ops Q rest (a.put o.dst v') w') : wpList Try.prog ops Q (o :: rest) a W := by
  obtain ⟨i0, hi0, hz0, hz1, hz2⟩ := info_parts infoInt
  refine wpList_append_own W hgd s x 46 ho B 3 i0 _ 1 8 Try.underlying46 hi0 hz0 hz1 hz2 rfl (by decide) _ L.length (numC L) hs hown ⟨g1, 0, none⟩ 1 1 (numC [y]) hx (by simp [numC]) ?_ (by intro u hu; simp [numC] at hu; rcases hu with rfl; rfl) (by unfold maxLen; omega) (by omega) hB ?_
  · intro j u hu
    match j, hu with
    | 0, hu =>
      have hadd : (⟨g1, 0, none⟩ : Addr).add 0 = ⟨g1, 0, none⟩ := by unfold Addr.add; split <;> simp_all
      rw [hadd, hb]; simpa [numC] using hu
    | j + 1, hu => simp [numC] at hu
  · intro v' w' own gr _
    refine h v' w' ?_ ((Below.refl _ _).grown gr hB (fun k hk => (hown.lt k hk).1))
    unfold MineN
    rw [List.length_append, show numC (L ++ [y]) = numC L ++ numC [y] by simp [numC]]
    exact own
theorem haltM {p : Prop} (h : Hid p) : p := h.out
theorem MineN.keep {B : Nat} {v : Value} {L : List Int} {w w' : World} (h : MineN B v L w) (hk : ∀ g, B ≤ g → g < w.heap.size → w'.heap[g]? = w.heap[g]?) : MineN B v L w' := by
  refine ⟨h.1, ?_⟩
  rcases h.2 with hn | ⟨g, cap, cur, e, hg, hh, rest⟩
  · exact .inl hn
  · have hlt : g < w.heap.size := (Array.getElem?_eq_some_iff.1 hh).1
    exact .inr ⟨g, cap, cur, e, hg, (hk g hg hlt).trans hh, rest⟩
/-- What New has made ahead of its loop, and after i rounds of it. -/
structure NewS (w0 : World) (B rb gw gs ga gx n : Nat) (v : Value) (i : Nat) (w : World) : Prop where
  box : Blk w rb 93 #[.int .i64 (-1), v, .slice (some ⟨gw, 0, none⟩) n n, .slice (some ⟨gs, 0, none⟩) n n, .slice (some ⟨ga, 0, none⟩) n n, .slice (some ⟨gx, 0, none⟩) n n]
  row : MineN B v (List.replicate i (-1)) w
  wt : BolsB gw n (fun _ => false) w
  st : IntsB gs n (fun _ => 0) w
  ps : IntsB ga n (fun _ => 0) w
  ox : IntsB gx n (fun _ => 0) w
  old : But Nob w0 w
  lb : rb < B ∧ gw < B ∧ gs < B ∧ ga < B ∧ gx < B
  hb : B ≤ w.heap.size
  lo : w0.heap.size ≤ rb ∧ w0.heap.size ≤ gw ∧ w0.heap.size ≤ gs ∧ w0.heap.size ≤ ga ∧ w0.heap.size ≤ gx
  a1 : gw ≠ rb ∧ gs ≠ rb ∧ ga ≠ rb ∧ gx ≠ rb
  a3 : gs ≠ gw ∧ ga ≠ gw ∧ gx ≠ gw
  a4 : ga ≠ gs ∧ gx ≠ gs
  a5 : gx ≠ ga
theorem newS_end {w0 : World} {B rb gw gs ga gx n : Nat} {v : Value} {w : World} (h : NewS w0 B rb gw gs ga gx n v n w) (hn : 1 ≤ n) :
    ∃ gn, RefM rb gn gw gs ga gx n R0 w ∧ But Nob w0 w ∧ ∀ k, OwnX rb gn gw gs ga gx k → w0.heap.size ≤ k := by
  have hr := h.row
  unfold MineN at hr
  rw [List.length_replicate] at hr
  rcases hr.2 with ⟨_, h0⟩ | ⟨g, cap, cur, rfl, hg, hh, hnc, _, hsz, htk⟩
  · omega
  · have lb := h.lb; have lo := h.lo; have hb := h.hb; have a1 := h.a1
    refine ⟨g, ⟨⟨cap, hnc, h.box⟩, ⟨cur, by omega, fun k hk => ?_, hh⟩, h.wt, h.st, h.ps, h.ox, ?_, ?_, h.a3, h.a4, h.a5⟩, h.old, fun k hk => ?_⟩
    · have := hr.cellAt k (by omega)
      rw [cell_of_row w g k cur 3 (0, 0) hh] at this
      rw [this]
      simp [numC, hk, R0]
    · exact ⟨by omega, by omega, by omega, by omega, by omega⟩
    · exact ⟨by omega, by omega, by omega, by omega⟩
    · rcases hk with rfl | rfl | rfl | rfl | rfl | rfl <;> omega
set_option maxRecDepth 100000 in
set_option maxHeartbeats 16000000 in
theorem rnew_any (p : Int) (n : Nat) (hn : min (max p 1) 16 = (n : Int)) (w : World) :
    Calls Try.prog 41 #[.int .i64 p] w fun e w' => ∃ rb gn gw gs ga gx, e = .returned (.pointer (some ⟨rb, 0, none⟩)) ∧ RefM rb gn gw gs ga gx n R0 w' ∧ But Nob w w' ∧ ∀ k, OwnX rb gn gw gs ga gx k → w.heap.size ≤ k := by
  have n1 : 1 ≤ n := by omega
  have n2 : n ≤ 16 := by omega
  obtain ⟨Z1, m1, s1, z1⟩ := make_ints n (by omega)
  obtain ⟨Z2, m2, s2, z2⟩ := make_bools n (by omega)
  have S1 := Lib.hid s1; have S2 := Lib.hid s2; have ZZ1 := Lib.hid z1; have ZZ2 := Lib.hid z2
  have HN := Lib.hid hn
  clear s1 s2 z1 z2 hn
  go_enter Try.func41, Try.ntmps41
  go_upto_if 8 with fail
  go_cut [3] (fun v wx => v = .int .i64 (max p 1) ∧ w = wx)
  case first =>
    by_cases h : p < 1
    · have t : decide (p < 1) = true := by simpa using h
      go_wp2_with fail
      go_meet
      exact ⟨by rw [show max p 1 = 1 by omega], rfl⟩
    · have t : decide (p < 1) = false := by simpa using h
      go_wp2_with fail
      go_meet
      exact ⟨by rw [show max p 1 = p by omega], rfl⟩
  case rest =>
    obtain ⟨rfl, rfl⟩ := hcut
    go_upto_if 10 with fail
    go_cut [3] (fun v wx => v = .int .i64 n ∧ w = wx)
    case first =>
      have hn := HN.out
      generalize max p 1 = m at *
      by_cases h : 16 < m
      · have t : decide (16 < m) = true := by simpa using h
        go_wp2_with fail
        go_meet
        exact ⟨by rw [show (n : Int) = 16 by omega], rfl⟩
      · have t : decide (16 < m) = false := by simpa using h
        go_wp2_with fail
        go_meet
        exact ⟨by rw [show (n : Int) = m by omega], rfl⟩
    case rest =>
      obtain ⟨rfl, rfl⟩ := hcut
      clear HN
      go_upto_region 6 with fail
      go_cut [4] (fun v wx => ∃ B rb gw gs ga gx, v = .pointer (some ⟨rb, 0, none⟩) ∧ NewS w B rb gw gs ga gx n (.slice none 0 0) 0 wx)
      case first =>
        go_region
        all_goals
          go_wp2_with fail
          go_meet
          refine ⟨w.heap.size + 5, _, _, _, _, _, rfl, ⟨blk_drew (blk_at _ (by simp)), ⟨by simp [numC], .inl ⟨rfl, by simp⟩⟩, bols_of ?_ S2.out ZZ2.out, ints_of ?_ S1.out ZZ1.out, ints_of ?_ S1.out ZZ1.out, ints_of ?_ S1.out ZZ1.out, ?_, ?_, ?_, ?_, ?_, ?_, ?_, ?_⟩⟩
          · repeat (first | (refine blk_at _ ?_; (simp; done)) | refine Blk.alloc ?_ _ | refine blk_drew ?_)
          · repeat (first | (refine blk_at _ ?_; (simp; done)) | refine Blk.alloc ?_ _ | refine blk_drew ?_)
          · repeat (first | (refine blk_at _ ?_; (simp; done)) | refine Blk.alloc ?_ _ | refine blk_drew ?_)
          · repeat (first | (refine blk_at _ ?_; (simp; done)) | refine Blk.alloc ?_ _ | refine blk_drew ?_)
          · repeat (first | exact But.refl _ _ | refine But.drew ?_ | refine But.alloc ?_ _)
          · exact ⟨by omega, by omega, by omega, by omega, by omega⟩
          · simp [World.drew]
          · exact ⟨by omega, by omega, by omega, by omega, by omega⟩
          · exact ⟨by omega, by omega, by omega, by omega⟩
          · exact ⟨by omega, by omega, by omega⟩
          · exact ⟨by omega, by omega⟩
          · omega
      case rest =>
        obtain ⟨B, rb, gw, gs, ga, gx, rfl, h1⟩ := hcut
        rename World => w1
        have H1 := Lib.hid h1; clear h1 m1 m2 S1 S2 ZZ1 ZZ2
        go_wp2_with fail
        go_loopw [5] (fun iv wr => ∃ (i : Nat) (v : Value), iv = .int .i64 i ∧ i ≤ n ∧ NewS w B rb gw gs ga gx n v i wr) (fun iv _ => n - (intOf iv).toNat)
        case atStart => exact ⟨0, _, rfl, Nat.zero_le _, H1.out⟩
        case round =>
          obtain ⟨i, v, rfl, hi, hS⟩ := hrel
          have HS := Lib.hid hS; clear hS H1
          by_cases hlt : i < n
          · have k0 : (0 : Int) ≤ (i : Int) := by omega
            have k1 : (i : Int) < (n : Int) := by omega
            have k2 : decide (i < n) = true := by simpa using hlt
            have b1 : wr.cell? ⟨rb, 1, none⟩ = some v := HS.out.box.cell 1
            have hrow : MineN B v (List.replicate i (-1)) (wr.alloc (.cells #[.int .i64 (-1)] 3)) := HS.out.row.alloc _
            have hbs : (wr.alloc (.cells #[.int .i64 (-1)] 3)).cell? ⟨wr.heap.size, 0, none⟩ = some (.int .i64 (-1)) := (Blk.new wr 3 #[.int .i64 (-1)]).cell 0
            have hsz : B ≤ (wr.alloc (.cells #[.int .i64 (-1)] 3)).heap.size := by have := HS.out.hb; simp; omega
            have HR := Lib.hid hrow; have HBS := Lib.hid hbs; have HSZ := Lib.hid hsz
            clear hrow hbs hsz
            go_wp2_with (at_builtin; refine haltM ?_)
            refine Lib.hid ?_
            refine app_mine rfl (.tmp 30) (.tmp 31) rfl B v (List.replicate i (-1)) rfl HR.out _ (-1) rfl HBS.out (by simp; omega) HSZ.out ?_
            intro v' w9 own9 b9
            obtain ⟨g9, p9, rfl⟩ : ∃ g p, v' = .slice (some ⟨g, 0, none⟩) (i + 1) p := by
              rcases own9.2 with ⟨_, h0⟩ | ⟨g, c, _, e, _⟩
              · simp at h0
              · exact ⟨g, c, by rw [e]; simp⟩
            have hB9 : Below B wr w9 := (((Below.refl B wr).alloc HS.out.hb _)).trans b9
            have box9 := HS.out.box.below hB9 HS.out.lb.1
            have f9 := box9.free 1
            have c9 : w9.cell? ⟨rb, 1, none⟩ = some v := box9.cell 1
            have H9 : Hid (NewS w B rb gw gs ga gx n (.slice (some ⟨g9, 0, none⟩) (i + 1) p9) (i + 1) (w9.setCell ⟨rb, 1, none⟩ (.slice (some ⟨g9, 0, none⟩) (i + 1) p9))) := by
              have h := HS.out
              obtain ⟨l1, l2, l3, l4, l5⟩ := h.lb
              obtain ⟨q1, q2, q3, q4⟩ := h.a1
              have hx : But (fun j => j = rb) w9 (w9.setCell ⟨rb, 1, none⟩ (.slice (some ⟨g9, 0, none⟩) (i + 1) p9)) := (But.refl _ w9).set ⟨rb, 1, none⟩ _ (.inl rfl)
              have hw : But (fun j => j = rb ∨ w.heap.size ≤ j) w (w9.setCell ⟨rb, 1, none⟩ (.slice (some ⟨g9, 0, none⟩) (i + 1) p9)) := by
                refine ((h.old.mono (Y := fun j => j = rb ∨ w.heap.size ≤ j) (fun _ _ x => x.elim)).trans ?_)
                refine (?_ : But _ wr w9).trans (hx.mono fun _ _ x => .inl x)
                exact ⟨hB9.os, hB9.tape, hB9.output, hB9.size, fun k _ hn => hB9.block k (by
                  rcases Nat.lt_or_ge k B with y | y
                  · exact y
                  · exact absurd (.inr (Nat.le_trans h.lo.1 (by omega))) hn)⟩
              refine ⟨?_, ?_, ?_, ?_, ?_, ?_, ?_, h.lb, ?_, h.lo, h.a1, h.a3, h.a4, h.a5⟩
              · have := box9.set_ 1 (.slice (some ⟨g9, 0, none⟩) (i + 1) p9)
                exact this
              · rw [List.replicate_succ']
                exact own9.keep fun g hg hlt => hx.block g hlt (by omega)
              · obtain ⟨S, a, c, d⟩ := h.wt; exact ⟨S, a, c, (d.below hB9 l2).but hx q1⟩
              · obtain ⟨S, a, c, d⟩ := h.st; exact ⟨S, a, c, (d.below hB9 l3).but hx q2⟩
              · obtain ⟨S, a, c, d⟩ := h.ps; exact ⟨S, a, c, (d.below hB9 l4).but hx q3⟩
              · obtain ⟨S, a, c, d⟩ := h.ox; exact ⟨S, a, c, (d.below hB9 l5).but hx q4⟩
              · refine hw.mono fun k hk x => ?_
                have := h.lo
                rcases x with x | x <;> omega
              · have := hB9.size; have := h.hb; have := hx.size; omega
            clear own9 b9 hB9 box9 HS HR HBS HSZ
            go_wp2_with fail
            go_roundw
            case rel => exact ⟨i + 1, _, by go_num, hlt, H9.out⟩
            case measure => simp [intOf]; omega
          · obtain rfl : i = n := by omega
            have k2 : decide (i < i) = false := by simp
            go_wp2_with fail
            go_ret
            obtain ⟨gn, e1, e2, e3⟩ := newS_end HS.out n1
            exact ⟨rb, gn, gw, gs, ga, gx, rfl, e1, e2, e3⟩
end Go.Proofs.Ytckdabokaelnoaa
