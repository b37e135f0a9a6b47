/- A row of events played (layer 19): printed by wip/src19/gen_kx.py. -/
import Derived.Test.YtilaalleiiakoaaDoorKt
namespace Go.Proofs.YtilaalleiiakoaaDoor
open Go.RowKit
set_option maxRecDepth 100000

theorem turnP_len {f g : Fl} {ps : List PR} {e : EvP} (h : turnP f ps e = some g) : g.ts.length ≤ f.ts.length + 1 ∧ g.ow.length = f.ow.length ∧ (In64F f.tm → In64F e.a → In64F g.tm) := by
  unfold turnP at h
  repeat' split at h
  all_goals first
    | (obtain rfl := Option.some.inj h; exact ⟨by simp, rfl, fun a b => by first | exact a | exact b⟩)
    | cases h
    | skip
  · obtain ⟨o, ho, rfl⟩ := Option.map_eq_some_iff.1 h
    unfold passP at ho
    split at ho
    · obtain rfl := Option.some.inj ho; exact ⟨by simp, by simp, fun a _ => a⟩
    · cases ho
  · obtain ⟨o, ho, rfl⟩ := Option.map_eq_some_iff.1 h
    unfold passP at ho
    split at ho
    · obtain rfl := Option.some.inj ho; exact ⟨by simp, by simp, fun a _ => a⟩
    · cases ho
  · obtain ⟨y, hy, rfl⟩ := Option.map_eq_some_iff.1 h
    exact ⟨by simp, rfl, fun a _ => a⟩
/-- A row of events that may be read. -/
def EvIn (w : World) (A : Option Addr) (l : List EvP) : Prop :=
  ∀ i e, l[i]? = some e → e.Ok ∧ ∃ b off, A = some ⟨b, off, none⟩ ∧ b < w.heap.size ∧ w.cell? ⟨b, off + i * 5, none⟩ = some (.int .i64 e.kd) ∧ w.cell? ⟨b, off + i * 5 + 1, none⟩ = some (.int .i64 e.tk) ∧ w.cell? ⟨b, off + i * 5 + 2, none⟩ = some (.int .i64 e.cpu) ∧ w.cell? ⟨b, off + i * 5 + 3, none⟩ = some (.int .i64 e.a) ∧ w.cell? ⟨b, off + i * 5 + 4, none⟩ = some (.int .i64 e.b)
theorem EvIn.below {w w' : World} {A : Option Addr} {l : List EvP} (h : EvIn w A l) (hb : Below w.heap.size w w') : EvIn w' A l := fun i e hx => by
  obtain ⟨ok, b, off, ea, hlt, c0, c1, c2, c3, c4⟩ := h i e hx
  exact ⟨ok, b, off, ea, Nat.lt_of_lt_of_le hlt hb.size, (hb.cell (p := ⟨b, _, none⟩) hlt).trans c0, (hb.cell (p := ⟨b, _, none⟩) hlt).trans c1, (hb.cell (p := ⟨b, _, none⟩) hlt).trans c2, (hb.cell (p := ⟨b, _, none⟩) hlt).trans c3, (hb.cell (p := ⟨b, _, none⟩) hlt).trans c4⟩
/-- What a row of events makes of a machine. -/
def PlaG (w : World) (r : Fl × Int) (e : Ending) (w' : World) : Prop :=
  ∃ F O, e = .returned (.tuple #[flV F O r.1.p r.1.tm, .int .i64 r.2]) ∧ OwnF w' w.heap.size F O r.1.ts r.1.ow ∧ Below w.heap.size w w'
/-- A machine under way. -/
structure PlS (w : World) (C q0 q1 : Nat) (old : Array Value) (f : Fl) (wr : World) : Prop where
  ex : ∃ F O, BF wr q0 F O f.p f.tm ∧ OwnF wr C F O f.ts f.ow
  br : Blk wr q1 30 old
  bl : Below w.heap.size w wr
  le : C ≤ wr.heap.size
section
variable {w : World} {B : Nat} {F O : Value} {f : Fl} {PA EA : Option Addr} {ps : List PR} {l : List EvP}
set_option maxHeartbeats 8000000 in
theorem play_any (h : InF w F O f.ts f.ow) (pcap ecap : Nat) (hl : f.ts.length + l.length ≤ 900) (hm : f.ow.length ≤ 900) (hG : Gnd w B PA ps) (ht : In64F f.tm) (hE : EvIn w EA l) :
    Calls Tryd.prog 11 #[flV F O f.p f.tm, .slice PA ps.length pcap, .slice EA l.length ecap] w (PlaG w (playP ps f l 0)) := by
  have hfr := FrT.new w F O f.p f.tm #[.slice none 0 0, .int .u64 0, .int .u64 0, .int .u64 0, .int .u64 0, .int .u64 0, .int .u64 0, .int .u64 0, .int .u64 0, .int .u64 0, .int .u64 0, .int .u64 0, .int .u64 0, .int .u64 0, .int .u64 0, .int .u64 0, .int .u64 0, .slice none 0 0, .int .i64 0] rfl
  have HH := Lib.hid h; have HG := Lib.hid hG; have HE := Lib.hid hE
  obtain ⟨oF, oO⟩ := h.one
  obtain ⟨R, hR⟩ : ∃ R, playP ps f l 0 = R := ⟨_, rfl⟩
  have HR := Lib.hid hR
  rw [hR]
  obtain ⟨n, hn⟩ : ∃ n, l.length = n := ⟨_, rfl⟩
  rw [hn] at hl ⊢
  have HN := Lib.hid hn
  clear h hR hG hE hn
  go_enter Tryd.func11, Tryd.ntmps11
  go_upto_region 1 with fail
  generalize (w.alloc (.cells (flL F O f.p f.tm).toArray 30)).alloc (.cells #[.slice none 0 0, .int .u64 0, .int .u64 0, .int .u64 0, .int .u64 0, .int .u64 0, .int .u64 0, .int .u64 0, .int .u64 0, .int .u64 0, .int .u64 0, .int .u64 0, .int .u64 0, .int .u64 0, .int .u64 0, .int .u64 0, .int .u64 0, .slice none 0 0, .int .i64 0] 30) = W at *
  obtain ⟨old, hbr, hold⟩ := hfr.br
  have HBR := Lib.hid hbr; have HBF := Lib.hid hfr.bf; have HOL := Lib.hid hold; have HB := Lib.hid hfr.bl
  have HAN := Lib.hid (anew_any (p := f.p) (t := f.tm) (HH.out.below hfr.bl) (by omega) (by omega))
  clear hbr hold hfr
  go_upto_region 2 with (first
    | (with_reducible (show wpList _ _ _ _ _ _); refine ld_flat rfl (.tmp 3) rfl w.heap.size rfl HBF.out ?_)
    | (go_at_call 24; (with_reducible refine HAN.out.mono ?_); rintro er w3 ⟨F3, O3, rfl, h3, hb3⟩; have HB3 := Lib.hid hb3; have H3 := Lib.hid h3; obtain ⟨oF3, oO3⟩ := h3.one; have HBF3 := Lib.hid (Blk.below HBF.out hb3 (Blk.lt HBF.out)); clear h3 hb3)
    | (with_reducible (show wpList _ _ _ _ _ _); refine st_flat rfl (.tmp 3) (.tmp 12) rfl w.heap.size rfl rfl oF3 oO3 (flL F O f.p f.tm).toArray HBF3.out (by rw [List.size_toArray, flL_len]) ?_))
  have HPS : Hid (PlS w W.heap.size w.heap.size (w.heap.size + 1) old f (w3.setRow w.heap.size (flL F3 O3 f.p f.tm).toArray)) := by
    have hq := HBR.out.lt
    refine ⟨⟨F3, O3, BF.row HBF3.out, H3.out.row _ _ fun k hk => by have := (H3.out.lt hk).1; omega⟩, (HBR.out.below HB3.out HBR.out.lt).row_other (by omega) _, ?_, by have := HB3.out.size; simpa using this⟩
    exact ((But.of_below (X := fun k => w.heap.size ≤ k) (HB.out.trans (HB3.out.mono HB.out.size))).row _ _ (.inr (Nat.le_refl _))).below (Nat.le_refl _) fun k _ q => q
  have hC1 : w.heap.size + 1 < W.heap.size := HBR.out.lt
  generalize w3.setRow w.heap.size (flL F3 O3 f.p f.tm).toArray = W3 at *
  clear HBR HBF HB HAN HB3 H3 HBF3
  obtain ⟨C, hC⟩ : ∃ C, W.heap.size = C := ⟨_, rfl⟩
  rw [hC] at HPS hC1
  have HC1 := Lib.hid hC1
  clear hC hC1
  go_wp2_with fail
  go_loopw [15] (fun iv wr => ∃ (k : Nat) (g : Fl), iv = .int .i64 k ∧ k ≤ n ∧ PlS w C w.heap.size (w.heap.size + 1) old g wr ∧ playP ps g (l.drop k) k = R ∧ g.ts.length ≤ f.ts.length + k ∧ g.ow.length ≤ 900 ∧ In64F g.tm) (fun iv _ => n - (intOf iv).toNat)
  case atStart => exact ⟨0, f, rfl, Nat.zero_le _, HPS.out, by simpa using HR.out, Nat.le_refl _, hm, ht⟩
  case round =>
    obtain ⟨k, g, rfl, hk, hps, hpl, hgl, hgo, hgt⟩ := hrel
    obtain ⟨F', O', hbf, hown⟩ := hps.ex
    obtain ⟨oF', oO'⟩ := hown.one
    by_cases hlt : k < n
    · obtain ⟨e, he⟩ : ∃ e, l[k]? = some e := ⟨_, List.getElem?_eq_getElem (by rw [HN.out]; exact hlt)⟩
      have hd : l.drop k = e :: l.drop (k + 1) := by
        have hkl := (List.getElem?_eq_some_iff.1 he).1
        rw [List.drop_eq_getElem_cons hkl]
        congr 1
        rw [List.getElem?_eq_getElem hkl] at he; simpa using he
      rw [hd] at hpl
      obtain ⟨eok, eb, eo, rfl, -, c0, c1, c2, c3, c4⟩ := (HE.out.below hps.bl) k e he
      have k0 : (0 : Int) ≤ (k : Int) := by omega
      have k1 : (k : Int) < (n : Int) := by omega
      obtain ⟨R2, hR2⟩ : ∃ R2, turnP g ps e = R2 := ⟨_, rfl⟩
      have hal : Below wr.heap.size wr (wr.alloc (.cells #[.int .i64 e.kd, .int .i64 e.tk, .int .i64 e.cpu, .int .i64 e.a, .int .i64 e.b] 36)) := (Below.refl _ _).alloc (Nat.le_refl _) _
      have HTU : Hid (Calls Tryd.prog 25 #[.agg (flL F' O' g.p g.tm).toArray, .slice PA ps.length pcap, .agg #[.int .i64 e.kd, .int .i64 e.tk, .int .i64 e.cpu, .int .i64 e.a, .int .i64 e.b]] (wr.alloc (.cells #[.int .i64 e.kd, .int .i64 e.tk, .int .i64 e.cpu, .int .i64 e.a, .int .i64 e.b] 36)) (FlG (wr.alloc (.cells #[.int .i64 e.kd, .int .i64 e.tk, .int .i64 e.cpu, .int .i64 e.a, .int .i64 e.b] 36)) B F' O' g R2)) := by
        have ho := (hown.below hal).raise (C := B) fun k hk => by have := (hown.lt hk).1; have := HG.out.le; have := HC1.out; omega
        have := turn_any ho pcap (by omega) ((HG.out.below (hps.bl.mono HG.out.le)).below (hal.mono (Nat.le_trans HG.out.le hps.bl.size))) hgt e eok.a
        rw [hR2] at this; exact this
      have HPL := Lib.hid hpl; have HR2 := Lib.hid hR2
      have HPS2 := Lib.hid hps; have HOW := Lib.hid hown; have HEO := Lib.hid eok.a; have HGT := Lib.hid hgt
      have HBA := Lib.hid (Blk.alloc hbf (.cells #[.int .i64 e.kd, .int .i64 e.tk, .int .i64 e.cpu, .int .i64 e.a, .int .i64 e.b] 36))
      have HAL := Lib.hid hal
      have HOW2 := Lib.hid (hown.below hal)
      have HNB : Hid (wr.heap.size = (wr.heap.size)) := rfl
      clear hpl hR2 hps hbf hown hal eok hd he hgt
      obtain ⟨kd, tk, cpu, ea, eb'⟩ := e
      dsimp only at c0 c1 c2 c3 c4 HTU HBA HAL
      go_upto_region 7 with (first
        | (with_reducible (show wpList _ _ _ _ _ _); refine ld_flat rfl (.tmp 3) rfl w.heap.size rfl HBA.out ?_)
        | (go_at_call 25; go_loud (with_reducible refine HTU.out.mono ?_); rintro er w5 ⟨F5, rfl, h5, hb5, hk5⟩; have H5 := Lib.hid h5; have HB5 := Lib.hid hb5; have HK5 := Lib.hid hk5; obtain ⟨oF5, oO5⟩ := h5.one; have hn0 : ¬ OwnB F' O' w.heap.size := (fun q => by have := (HOW2.out.lt q).1; have := HC1.out; omega); have HBF5 := Lib.hid (Blk.but HBA.out hb5 hn0); clear h5 hb5 hk5 hn0)
        | (with_reducible (show wpList _ _ _ _ _ _); refine st_flat rfl (.tmp 3) (.tmp 25) rfl w.heap.size rfl rfl oF5 oO5 (flL F' O' g.p g.tm).toArray HBF5.out (by rw [List.size_toArray, flL_len]) ?_))
      have hlow : ∀ k, OwnB F5 O' k → C ≤ k := fun k hk => by
        rcases hk with q | q
        · rcases HK5.out k q with q | q
          · exact (HOW.out.lt (.inl q)).1
          · have := HPS2.out.le; have := HAL.out.size; omega
        · exact (HOW.out.lt (.inr q)).1
      have hb6 : But (OwnB F' O') wr w5 := (But.of_below HAL.out).trans HB5.out
      have HPS5 : Hid (PlS w C w.heap.size (w.heap.size + 1) old (R2.getD g) (w5.setRow w.heap.size (flL F5 O' (R2.getD g).p (R2.getD g).tm).toArray)) := by
        refine ⟨⟨F5, O', BF.row HBF5.out, (H5.out.raise hlow).row _ _ fun k hk => by have := hlow k hk; have := HC1.out; omega⟩, (HPS2.out.br.but hb6 fun q => by have := (HOW.out.lt q).1; have := HC1.out; omega).row_other (by omega) _, ?_, by have := hb6.size; have := HPS2.out.le; simp; omega⟩
        exact (((But.of_below (X := fun k => w.heap.size ≤ k) HPS2.out.bl).trans (hb6.mono fun k _ q => by have := (HOW.out.lt q).1; have := HC1.out; omega)).row _ _ (.inr (Nat.le_refl _))).below (Nat.le_refl _) fun k _ q => q
      have HBF6 : Hid (BF (w5.setRow w.heap.size (flL F5 O' (R2.getD g).p (R2.getD g).tm).toArray) w.heap.size F5 O' (R2.getD g).p (R2.getD g).tm) := BF.row HBF5.out
      have HOW6 : Hid (OwnF (w5.setRow w.heap.size (flL F5 O' (R2.getD g).p (R2.getD g).tm).toArray) C F5 O' (R2.getD g).ts (R2.getD g).ow) := (H5.out.raise hlow).row _ _ fun k hk => by have := hlow k hk; have := HC1.out; omega
      generalize w5.setRow w.heap.size (flL F5 O' (R2.getD g).p (R2.getD g).tm).toArray = w6 at *
      clear hb6 hlow HBF5 H5 HB5 HK5 HTU HBA HAL HOW2 c0 c1 c2 c3 c4 HNB
      cases R2 with
      | none =>
        have HQR : Hid (R = (g, (k : Int))) := by
          show _ = _
          rw [← HPL.out]
          unfold playP
          rw [HR2.out]
        simp only [Option.getD_none] at HPS5 HBF6 HOW6
        go_wp2_with (first
          | (with_reducible (show wpList _ _ _ _ _ _); refine ld_flat rfl (.tmp 3) rfl w.heap.size rfl HBF6.out ?_)
          | (with_reducible (show wpList _ _ _ _ _ _); refine st_flat rfl (.tmp 6) (.tmp 29) rfl (w.heap.size + 1) rfl rfl oF5 oO5 old HPS5.out.br HOL.out ?_))
        refine ret_flat2 rfl (w.heap.size + 1) rfl (BF.row HPS5.out.br) rfl ?_
        have e := HQR.out
        subst e
        refine ⟨F5, O', rfl, (HOW6.out.row _ _ fun k hk => by have := (HOW6.out.lt hk).1; have := HC1.out; omega).raise fun k hk => by have := (HOW6.out.lt hk).1; have := HC1.out; omega, ?_⟩
        exact ((But.of_below (X := fun k => w.heap.size ≤ k) HPS5.out.bl).row _ _ (.inr (by simp))).below (Nat.le_refl _) fun k _ q => q
      | some g2 =>
        have HQR : Hid (playP ps g2 (l.drop (k + 1)) (k + 1) = R) := by
          show _ = _
          rw [← HPL.out]
          conv => rhs; unfold playP
          rw [HR2.out]
        simp only [Option.getD_some] at HPS5
        have hln := turnP_len HR2.out
        have HLN := Lib.hid hln
        clear hln
        go_wp2_with fail
        go_roundw
        case rel => exact ⟨k + 1, g2, by go_num, by omega, HPS5.out, HQR.out, by have := HLN.out.1; omega, by have := HLN.out.2.1; omega, HLN.out.2.2 HGT.out HEO.out⟩
        case measure => simp [intOf]; omega
    · obtain rfl : k = n := by omega
      have tk : ¬ (k : Int) < (k : Int) := by omega
      have HPS5 := Lib.hid hps; have HBF6 := Lib.hid hbf; have HOW6 := Lib.hid hown
      have HQR : Hid (R = (g, -1)) := by
        show _ = _
        rw [← hpl, List.drop_of_length_le (by rw [HN.out]; exact Nat.le_refl _)]
        rfl
      clear hps hbf hown hpl
      go_wp2_with (first
        | (with_reducible (show wpList _ _ _ _ _ _); refine ld_flat rfl (.tmp 3) rfl w.heap.size rfl HBF6.out ?_)
        | (with_reducible (show wpList _ _ _ _ _ _); refine st_flat rfl (.tmp 6) (.tmp 32) rfl (w.heap.size + 1) rfl rfl oF' oO' old HPS5.out.br HOL.out ?_))
      refine ret_flat2 rfl (w.heap.size + 1) rfl (BF.row HPS5.out.br) rfl ?_
      have e := HQR.out
      subst e
      refine ⟨F', O', rfl, (HOW6.out.row _ _ fun k hk => by have := (HOW6.out.lt hk).1; have := HC1.out; omega).raise fun k hk => by have := (HOW6.out.lt hk).1; have := HC1.out; omega, ?_⟩
      exact ((But.of_below (X := fun k => w.heap.size ≤ k) HPS5.out.bl).row _ _ (.inr (by simp))).below (Nat.le_refl _) fun k _ q => q
end
end Go.Proofs.YtilaalleiiakoaaDoor
