/- layer 31 (codec): rows of five numbers, as events and entries. -/
import Derived.Test.YtchhenpijbecaaaDoorDb
namespace Go.Proofs.YtchhenpijbecaaaDoor
open Go.RowKit
set_option maxRecDepth 100000

theorem st5A {d : I5} {w : World} {ops : Array Oper} {rest : List Oper} {o : Oper} {a : Act} {Q : Exit → Act → World → Prop} (hgd : o.guard = none) (x y : Operand) (ho : o.op = .store 77 x y)
    (g : Nat) (hx : a.eval x = .pointer (some ⟨g, 0, none⟩)) (hy : a.eval y = .agg (clV d).toArray) (old : Array Value) (hg : Blk w g 77 old) (hold : old.size = 5)
    (h : wpList Tryd.prog ops Q rest (a.put o.dst undef) (w.setRow g (clV d).toArray)) : wpList Tryd.prog ops Q (o :: rest) a w :=
  wpList_store_row hgd 77 x y ho g _ hx hy 77 old hg (by rw [infoA5, List.size_toArray, clV_len]) (by rw [hold, List.size_toArray, clV_len]) (clV_one d) h
theorem ne_VN {B : Nat} {w : World} {v u : Value} {L M : List I5} (h : OwnV B w v L) (h' : OwnN B w u M) : u.ownBlock = none ∨ u.ownBlock ≠ v.ownBlock := by
  rcases h'.2 with ⟨rfl, _⟩ | ⟨g, cap, cur, rfl, _, hh, _⟩
  · exact .inl rfl
  · refine .inr fun e => ?_
    rcases h.2 with ⟨rfl, _⟩ | ⟨g', cap', cur', rfl, _, hh', _⟩
    · cases e
    · injection e with e
      subst e
      rw [hh] at hh'
      simp at hh'
set_option maxHeartbeats 16000000 in
theorem fives_any (A : Option Addr) (L : List I5) (n cap : Nat) (hn : L.length = n) (hl : n ≤ 10000) (hf : ∀ x ∈ L, Fit5 x) (w : World) (h : RowsV w.heap.size w A L) :
    Calls Tryd.prog 18 #[.slice A n cap] w fun e w' => ∃ v u, e = .returned (.tuple #[v, u]) ∧ OwnV w.heap.size w' v L ∧ OwnN w.heap.size w' u L ∧ Below w.heap.size w w' := by
  have HR := Lib.hid h; have HN := Lib.hid hn; have HF := Lib.hid hf
  obtain ⟨i0, hi0, hz0, hz1, hz2⟩ := info_parts infoPV
  obtain ⟨j0, hj0, hy0, hy1, hy2⟩ := info_parts infoPN
  clear h hn hf
  go_enter Tryd.func18, Tryd.ntmps18
  go_wp2_with fail
  go_loopw [4, 5, 10] (fun a b iv wr => ∃ k : Nat, iv = .int .i64 k ∧ k ≤ n ∧ OwnV w.heap.size wr a (L.take k) ∧ OwnN w.heap.size wr b (L.take k) ∧ Below w.heap.size w wr) (fun _ _ iv _ => n - (intOf iv).toNat)
  case atStart => exact ⟨0, rfl, Nat.zero_le _, World.ownsRow_nil _ _ _ _, World.ownsRow_nil _ _ _ _, Below.refl _ _⟩
  case round =>
    obtain ⟨k, rfl, hk, hv, hu, hb⟩ := hrel
    have HV := Lib.hid hv; have HU := Lib.hid hu; have HB := Lib.hid hb
    clear hv hu hb
    by_cases hlt : k < n
    · obtain ⟨x, hx⟩ : ∃ x, L[k]? = some x := ⟨_, List.getElem?_eq_getElem (by rw [HN.out]; omega)⟩
      obtain ⟨b, o, rfl, -, hr⟩ := (HR.out.below HB.out) k x hx
      have HRG := Lib.hid hr
      have HID : Hid ((Tryd.prog.info? 77).map (·.size) = some (clV x).length) := by show _ = _; rw [infoA5, clV_len]
      have k0 : (0 : Int) ≤ (k : Int) := by omega
      have k1 : (k : Int) < (n : Int) := by omega
      have HFX := Lib.hid (HF.out x (List.mem_of_getElem? hx))
      have HE : Hid (L.take (k + 1) = L.take k ++ [x]) := by
        show _ = _
        have hkl : k < L.length := (List.getElem?_eq_some_iff.1 hx).1
        rw [List.take_succ_eq_append_getElem hkl, (List.getElem?_eq_some_iff.1 hx).2]
      have HTL := Lib.hid (show (L.take k).length = k by rw [List.length_take, HN.out]; omega)
      clear hr hx
      go_upto_region 6 with (first
        | (with_reducible (show wpList _ _ _ _ _ _); refine wpList_load_mid rfl 77 (.tmp 12) rfl b (o + k * 5) rfl (clV x) _ HRG.out Tryd.underlying77 rfl HID.out ?_)
        | (with_reducible (show wpList _ _ _ _ _ _); refine st5A rfl (.tmp 7) (.tmp 13) rfl wr.heap.size rfl rfl _ (Blk.new wr _ _) rfl ?_))
      have hbx : Blk ((wr.alloc (.cells #[.int .i64 0, .int .i64 0, .int .i64 0, .int .i64 0, .int .i64 0] 77)).setRow wr.heap.size (clV x).toArray) wr.heap.size 77 (clV x).toArray := setRow_heap _ _ _ _ _ _ (Blk.new wr _ _)
      have hbw : Below wr.heap.size wr ((wr.alloc (.cells #[.int .i64 0, .int .i64 0, .int .i64 0, .int .i64 0, .int .i64 0] 77)).setRow wr.heap.size (clV x).toArray) := (((But.of_below (X := fun k => wr.heap.size ≤ k) (Below.refl _ _)).alloc _).row _ _ (.inl (Nat.le_refl _))).below (Nat.le_refl _) fun k _ z => z
      generalize (wr.alloc (.cells #[.int .i64 0, .int .i64 0, .int .i64 0, .int .i64 0, .int .i64 0] 77)).setRow wr.heap.size (clV x).toArray = V at *
      have HVV := Lib.hid (own_on HV.out hbw)
      have HUV := Lib.hid (own_on HU.out hbw)
      have HBV := Lib.hid (HB.out.trans (hbw.mono HB.out.size))
      have HGV : Hid (∀ b, u4.ownBlock = some b → b < wr.heap.size) := fun b hb => (HV.out.lt b hb).2
      have HGS := Lib.hid HB.out.size
      clear hbw HRG HID HV HU HB
      generalize wr.heap.size = g at *
      have HBX := Lib.hid hbx
      have e0 : V.cell? ⟨g, 0, none⟩ = some (.int .i64 x.a) := hbx.cell 0
      have e1 : V.cell? ⟨g, 1, none⟩ = some (.int .i64 x.b) := hbx.cell 1
      have e2 : V.cell? ⟨g, 2, none⟩ = some (.int .i64 x.c) := hbx.cell 2
      have e3 : V.cell? ⟨g, 3, none⟩ = some (.int .i64 x.d) := hbx.cell 3
      have e4 : V.cell? ⟨g, 4, none⟩ = some (.int .i64 x.e) := hbx.cell 4
      clear hbx
      go_upto_region 7 with (at_builtin; refine wpList_append_own _ rfl (.tmp 14) (.tmp 26) 39 rfl w.heap.size 42 i0 (.agg #[.int .i64 0, .int .i64 0, .int .i64 0, .int .i64 0, .int .i64 0]) 5 40 Tryd.underlying39 hi0 hz0 hz1 hz2 rfl (by decide) _ (L.take k).length _ rfl (HVV.out.alloc _) ⟨V.heap.size, 0, none⟩ 1 1 (clV x) rfl rfl (new5V V x.a x.b x.c x.d x.e) (one5V _) (by have := HTL.out; unfold maxLen; omega) (by have := HTL.out; omega) (by have := HBV.out.size; simp; omega) ?_; intro v6 w6 own6 gr6 _; have O6 := Lib.hid own6; have G6 := Lib.hid gr6; clear own6 gr6)
      have O7 : Hid (OwnV w.heap.size w6 v6 (L.take (k + 1))) := by
        show w6.ownsRow _ _ _ _ _ _
        rw [HE.out, List.length_append, dsV_app, dsV_one]; exact O6.out
      have B6 : Hid (But (fun b => w.heap.size ≤ b ∧ b ≠ g) V w6) := ((But.refl _ V).alloc _).grown G6.out fun b hb => .inl ⟨(HVV.out.lt b hb).1, by have := HGV.out b hb; omega⟩
      have HU6 : Hid (OwnN w.heap.size w6 u5 (L.take k)) := (HUV.out.alloc _).kept G6.out (ne_VN HVV.out HUV.out)
      have hbx := HBX.out.but B6.out (fun h => h.2 rfl)
      have HB6 := Lib.hid (HBV.out.trans (B6.out.below HBV.out.size fun b _ hb => hb.1))
      clear e0 e1 e2 e3 e4 O6
      have e0 : w6.cell? ⟨g, 0, none⟩ = some (.int .i64 x.a) := hbx.cell 0
      have e1 : w6.cell? ⟨g, 1, none⟩ = some (.int .i64 x.b) := hbx.cell 1
      have e2 : w6.cell? ⟨g, 2, none⟩ = some (.int .i64 x.c) := hbx.cell 2
      have e3 : w6.cell? ⟨g, 3, none⟩ = some (.int .i64 x.d) := hbx.cell 3
      have e4 : w6.cell? ⟨g, 4, none⟩ = some (.int .i64 x.e) := hbx.cell 4
      have hwe : IntKind.u64.wrap x.e = (toU x.e : Int) := toU_of HFX.out.2.2.2.2
      clear hbx
      go_wp2_with (at_builtin; refine wpList_append_own _ rfl (.tmp 28) (.tmp 41) 40 rfl w.heap.size 46 j0 (.agg #[.int .i64 0, .int .i64 0, .int .i64 0, .int .i64 0, .int .u64 0]) 5 40 Tryd.underlying40 hj0 hy0 hy1 hy2 rfl (by decide) _ (L.take k).length _ rfl (HU6.out.alloc _) ⟨w6.heap.size, 0, none⟩ 1 1 (clN x) rfl rfl (new5N w6 x.a x.b x.c x.d x.e) (one5N _) (by have := HTL.out; unfold maxLen; omega) (by have := HTL.out; omega) (by have := HB6.out.size; simp; omega) ?_; intro v8 w8 own8 gr8 _; have O8 := Lib.hid own8; have G8 := Lib.hid gr8; clear own8 gr8)
      have O9 : Hid (OwnN w.heap.size w8 v8 (L.take (k + 1))) := by
        show w8.ownsRow _ _ _ _ _ _
        rw [HE.out, List.length_append, dsN_app, dsN_one]; exact O8.out
      have B8 : Hid (But (fun b => w.heap.size ≤ b) w6 w8) := ((But.refl _ w6).alloc _).grown G8.out fun b hb => .inl (HU6.out.lt b hb).1
      have HV8 : Hid (OwnV w.heap.size w8 v6 (L.take (k + 1))) := by
        refine (O7.out.alloc _).kept G8.out ?_
        rcases ne_VN O7.out HU6.out with h | h
        · cases hv : v6.ownBlock with
          | none => exact .inl rfl
          | some z => exact .inr (show some z ≠ u5.ownBlock by rw [h]; simp)
        · exact .inr (fun e => h e.symm)
      go_roundw
      case rel =>
        exact ⟨k + 1, by go_num, by omega, HV8.out, O9.out, HB6.out.trans (B8.out.below HB6.out.size fun b _ hb => hb)⟩
      case measure => simp [intOf]; omega
    · obtain rfl : k = n := by omega
      have k1 : ¬ (k : Int) < (k : Int) := by omega
      have e : L.take k = L := by rw [← HN.out]; exact List.take_length
      rw [e] at HV HU
      go_wp2_with fail
      go_ret2
      exact ⟨_, _, rfl, HV.out, HU.out, HB.out⟩
end Go.Proofs.YtchhenpijbecaaaDoor
