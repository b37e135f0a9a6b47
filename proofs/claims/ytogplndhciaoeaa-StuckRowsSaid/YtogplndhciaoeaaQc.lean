/- layer 27 (stuck): rows of waits; whom. -/
import Derived.Test.YtogplndhciaoeaaQb
import Derived.Deep.MidRow
import Derived.Deep.Cut
import Derived.Deep.CutRange
import Derived.Deep.CutBlock
import Derived.Deep.DeepCutAuto
import Derived.Deep.LoopGhost
namespace Go.Proofs.Ytogplndhciaoeaa
open Go.RowKit Go.Maps
set_option maxRecDepth 100000

theorem But.row {X : Nat → Prop} {a w : World} (h : But X a w) (g : Nat) (cs : Array Value) (hg : X g ∨ a.heap.size ≤ g) : But X a (w.setRow g cs) :=
  ⟨h.os, h.tape, h.output, by simpa using h.size, fun k hk hn => (setRow_other w g k cs (by rintro rfl; rcases hg with hg | hg; exact hn hg; omega)).trans (h.block k hk hn)⟩
theorem MapI.blk {e : TypeId} {w w' : World} {b n : Nat} {m : Int → Option Int} (h : MapI e w b n m) (hb : w'.heap[b]? = w.heap[b]?) : MapI e w' b n m := by
  obtain ⟨D, ⟨es, clock, h1, h2, h3, h4⟩, h5⟩ := h
  exact ⟨D, ⟨es, clock, hb.trans h1, h2, h3, h4⟩, h5⟩
theorem up_map {e : TypeId} {b n : Nat} {m : Int → Option Int} {ops : Array Oper} {rest : List Oper} {o : Oper} {a : Act} {w : World} {Q : Exit → Act → World → Prop} (hg : o.guard = none) (M X V : Operand) (t : TypeId) (ho : o.op = .mapUpdate t M X V)
    (ht : Try.prog.underlying t = some (.map 3 e)) (he : Try.prog.underlying e = some (.int .i64)) (hm : a.eval M = .map (some b)) (h : MapI e w b n m) (hn : n < maxLen) (x c : Int) (hx : a.eval X = .int .i64 x) (hv : a.eval V = .int .i64 c) (hx64 : W64 x) (hc64 : W64 c)
    (K : ∀ w', MapI e w' b (n + 1) (fun y => if y = x then some c else m y) → w.grownBy w' (some b) → wpList Try.prog ops Q rest (a.put o.dst undef) w') : wpList Try.prog ops Q (o :: rest) a w := by
  refine wpList_plain hg fun K' hK' => ?_
  obtain ⟨w', hrun, r1, r2⟩ := h.update ht he hn hx64 hc64
  unfold Oper.wp
  simp [execOp, ho, hm, hx, hv, hrun, Result.andThen]
  exact hK' _ _ (K w' r1 r2)
theorem infoW : (Try.prog.info? 62).map (·.size) = some 2 := by kernel_rfl
/-- a row of waits that may be read. -/
def RowW (B : Nat) (w : World) (A : Option Addr) (l : List (Int × Int)) : Prop :=
  ∀ (i : Nat) x, l[i]? = some x → ∃ b off, A = some ⟨b, off, none⟩ ∧ b < B ∧ w.rangeAt b (off + i * 2) [.int .i64 x.1, .int .i64 x.2]
theorem RowW.below {B : Nat} {w w' : World} {A : Option Addr} {l : List (Int × Int)} (h : RowW B w A l) (hb : Below B w w') : RowW B w' A l := fun i d hd => by
  obtain ⟨b, off, e, hlt, hr⟩ := h i d hd
  exact ⟨b, off, e, hlt, fun j u hu => (hb.cell (p := ⟨b, _, none⟩) hlt).trans (hr j u hu)⟩
theorem stW {ops : Array Oper} {rest : List Oper} {o : Oper} {a : Act} {w : World} {Q : Exit → Act → World → Prop} (hgd : o.guard = none) (x y : Operand) (ho : o.op = .store 62 x y)
    (g : Nat) (c d : Int) (hx : a.eval x = .pointer (some ⟨g, 0, none⟩)) (hy : a.eval y = .agg #[.int .i64 c, .int .i64 d]) (old : Array Value) (hg : w.heap[g]? = some (.cells old 62 (0, 0))) (hold : old.size = 2)
    (h : wpList Try.prog ops Q rest (a.put o.dst undef) (w.setRow g #[.int .i64 c, .int .i64 d])) : wpList Try.prog ops Q (o :: rest) a w :=
  wpList_store_row hgd 62 x y ho g _ hx hy 62 old hg (by rw [infoW]; rfl) (by rw [hold]; rfl) (by simp [Value.oneCell']) h
theorem run_mkI (w : World) (k : Int) : (Instr.makeMap 59 (some (.int .i64 k))).run Try.prog w = .ok (.map (some w.heap.size)) (w.alloc (.map #[] 0)) := by
  simp [Instr.makeMap, run_underlying Try.underlying59, asInt, asIntOf, Result.andThen]
theorem putL_app (m : Int → Option Int) (l : List (Int × Int)) (w : Int × Int) : putL m (l ++ [w]) = fun x => if x = w.1 then some w.2 else putL m l x := by
  unfold putL; rw [List.foldl_append]; rfl
set_option maxHeartbeats 4000000 in
theorem whom_any (A : Option Addr) (l : List (Int × Int)) (n cap : Nat) (hn : l.length = n) (hl : n ≤ 1000) (hf : ∀ x ∈ l, W64 x.1 ∧ W64 x.2) (w : World) (h : RowW w.heap.size w A l) :
    Calls Try.prog 37 #[.slice A n cap] w fun e w' => e = .returned (.map (some w.heap.size)) ∧ MapI 3 w' w.heap.size n (putL (fun _ => none) l) ∧ Below w.heap.size w w' ∧ w.heap.size < w'.heap.size := by
  have HR := Lib.hid h; have HN := Lib.hid hn; have HF := Lib.hid hf
  have hm := mapI_made 3 w
  have hbl : Below w.heap.size w (w.alloc (.map #[] 0)) := (Below.refl _ _).alloc (Nat.le_refl _) _
  have hsz : (w.alloc (.map #[] 0)).heap.size = w.heap.size + 1 := by simp
  have hmk := run_mkI w (n : Int)
  clear h hn hf
  go_enter Try.func37, Try.ntmps37
  go_upto_region 2 with fail
  clear hmk
  generalize w.alloc (.map #[] 0) = V at *
  obtain ⟨B, hB⟩ : ∃ B, w.heap.size = B := ⟨_, rfl⟩
  have HBB := Lib.hid hB
  rw [hB] at hm hbl hsz HR ⊢
  clear hB
  have HM := Lib.hid hm; have HBL := Lib.hid hbl; have HSZ := Lib.hid hsz
  clear hm hbl hsz
  go_wp2_with fail
  go_loopw [11] (fun iv wr => ∃ k : Nat, iv = .int .i64 k ∧ k ≤ n ∧ MapI 3 wr B k (putL (fun _ => none) (l.take k)) ∧ Below B w wr ∧ B < wr.heap.size) (fun iv _ => n - (intOf iv).toNat)
  case atStart => exact ⟨0, rfl, Nat.zero_le _, HM.out, HBL.out, by have := HSZ.out; omega⟩
  case round =>
    obtain ⟨k, rfl, hk, hmp, hb, hbs⟩ := hrel
    have HMP := Lib.hid hmp; have HB := Lib.hid hb; have HBS := Lib.hid hbs
    clear hmp hb hbs
    by_cases hlt : k < n
    · obtain ⟨x, hx⟩ : ∃ x, l[k]? = some x := ⟨_, List.getElem?_eq_getElem (by rw [HN.out]; omega)⟩
      obtain ⟨b, o, rfl, -, hr⟩ := (HR.out.below HB.out) k x hx
      have HRG := Lib.hid hr
      have HID : Hid ((Try.prog.info? 62).map (·.size) = some [Value.int .i64 x.1, Value.int .i64 x.2].length) := infoW
      have k0 : (0 : Int) ≤ (k : Int) := by omega
      have k1 : (k : Int) < (n : Int) := by omega
      have HFX := Lib.hid (HF.out x (List.mem_of_getElem? hx))
      have HE : Hid (putL (fun _ => none) (l.take (k + 1)) = fun y => if y = x.1 then some x.2 else putL (fun _ => none) (l.take k) y) := by
        show _ = _
        have hkl : k < l.length := (List.getElem?_eq_some_iff.1 hx).1
        rw [List.take_succ_eq_append_getElem hkl, (List.getElem?_eq_some_iff.1 hx).2, putL_app]
      obtain ⟨c, d⟩ := x
      dsimp only at HRG HFX HE HID
      clear hr hx
      go_upto_region 5 with (first
        | (with_reducible (show wpList _ _ _ _ _ _); refine wpList_load_mid rfl 62 (.tmp 13) rfl b (o + k * 2) rfl [.int .i64 c, .int .i64 d] _ HRG.out Try.underlying62 rfl HID.out ?_)
        | (with_reducible (show wpList _ _ _ _ _ _); refine stW rfl (.tmp 5) (.tmp 14) rfl wr.heap.size c d rfl rfl _ (heap_alloc_new _ _) rfl ?_))
      have hgg : (wr.alloc (.cells #[.int .i64 0, .int .i64 0] 62)).heap[wr.heap.size]? = some (.cells #[.int .i64 0, .int .i64 0] 62 (0, 0)) := heap_alloc_new _ _
      have hbx : Blk ((wr.alloc (.cells #[.int .i64 0, .int .i64 0] 62)).setRow wr.heap.size #[.int .i64 c, .int .i64 d]) wr.heap.size 62 #[.int .i64 c, .int .i64 d] := setRow_heap _ _ _ _ _ _ hgg
      have hbw : Below wr.heap.size wr ((wr.alloc (.cells #[.int .i64 0, .int .i64 0] 62)).setRow wr.heap.size #[.int .i64 c, .int .i64 d]) := (((But.refl (fun b => b = wr.heap.size) wr).alloc _).row wr.heap.size _ (.inl rfl)).below (Nat.le_refl _) fun b hb h => by omega
      clear hgg
      generalize (wr.alloc (.cells #[.int .i64 0, .int .i64 0] 62)).setRow wr.heap.size #[.int .i64 c, .int .i64 d] = V2 at *
      have HMV : Hid (MapI 3 V2 B k (putL (fun _ => none) (l.take k))) := HMP.out.blk (hbw.block B HBS.out)
      have HBV := Lib.hid (HB.out.trans (hbw.mono (Nat.le_of_lt HBS.out)))
      have HSV : Hid (B < V2.heap.size) := Nat.lt_of_lt_of_le HBS.out hbw.size
      clear hbw HRG HID
      generalize wr.heap.size = g at *
      have e0 : V2.cell? ⟨g, 0, none⟩ = some (.int .i64 c) := hbx.cell 0
      have e1 : V2.cell? ⟨g, 1, none⟩ = some (.int .i64 d) := hbx.cell 1
      clear hbx
      go_upto_region 6 with (with_reducible (show wpList _ _ _ _ _ _); refine up_map rfl (.tmp 15) (.tmp 17) (.tmp 19) 59 rfl Try.underlying59 Try.underlying3 rfl HMV.out (by unfold maxLen; omega) c d rfl rfl HFX.out.1 HFX.out.2 ?_; intro w5 hm5 hg5; have HM5 := Lib.hid hm5; have HG5 := Lib.hid hg5; clear hm5 hg5)
      clear e0 e1
      have HB5 : Hid (Below B V2 w5) := ((But.refl (fun b => b = B) V2).grown HG5.out fun k hk => .inl (by injection hk with hk; exact hk.symm)).below (Nat.le_of_lt HSV.out) fun b hb h => by omega
      go_wp2_with fail
      go_roundw
      case rel => exact ⟨k + 1, by go_num, by omega, by rw [HE.out]; exact HM5.out, HBV.out.trans HB5.out, Nat.lt_of_lt_of_le HSV.out HG5.out.size⟩
      case measure => simp [intOf]; omega
    · obtain rfl : k = n := by omega
      go_wp2_with fail
      go_ret
      rw [HBB.out]
      exact ⟨rfl, by have := HMP.out; rw [← HN.out, List.take_length] at this; rw [← HN.out]; exact this, HB.out, HBS.out⟩
end Go.Proofs.Ytogplndhciaoeaa
