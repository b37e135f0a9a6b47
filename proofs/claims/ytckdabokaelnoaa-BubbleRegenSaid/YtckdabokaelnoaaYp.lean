/- BubbleRegen's walk (layer 13). -/
import Derived.Test.YtckdabokaelnoaaYm
import Derived.Test.YtckdabokaelnoaaYn
import Derived.Test.YtckdabokaelnoaaYo
import Derived.Test.YtckdabokaelnoaaZx
import Derived.Test.YtckdabokaelnoaaZs
import Derived.Deep.AppendLies
namespace Go.Proofs.Ytckdabokaelnoaa
open Go.RowKit
set_option maxRecDepth 100000

theorem bubL_info (x : Bub) : (Try.prog.info? 40).map (·.size) = some (bubL x).length := by rw [bubL_len]; exact infoB
theorem store_bub (x : Bub) (W : World) : (storeCells ⟨W.heap.size, 0, none⟩ (bubL x).toArray.toList 0).run Try.prog (W.alloc (.cells #[.int .i64 0, .int .u64 0, .int .u64 0, .int .u64 0, .int .u64 0, .int .u64 0, .int .u64 0, .int .u64 0, .int .u64 0, .int .u64 0, .int .u64 0, .int .u64 0, .int .u64 0, .int .u64 0, .int .u64 0, .int .u64 0, .int .u64 0, .int .i64 0, .int .i64 0] 40)) = .ok () (W.alloc (.cells (bubL x).toArray 40)) :=
  run_storeCells_new W 40 _ _ (infoB.trans (congrArg some (by rw [List.size_toArray, bubL_len]))) (Eq.trans (show _ = 19 from rfl) (by rw [List.size_toArray, bubL_len])) (all_one (bubL_one x))
/-- The law's things: the forest, the bubble as it was, the row of those before. -/
structure Reg (w0 : World) (fb : Nat) (v : Value) (bs : List Bub) (xb : Nat) (x : Bub) (B : Nat) (dv : Value) (og : List Bub) (k : Nat) (W : World) : Prop where
  own : Own w0 fb v bs W
  box : Blk W xb 40 (bubL x).toArray
  row : W.ownsRow B 40 19 dv k (bubC (og.take k))
  lo : w0.heap.size ≤ xb
  xB : xb < B
  hB : B ≤ W.heap.size
  sep : ∀ k, OwnF fb v k → k < xb
section
variable {w0 W W' : World} {fb xb B k : Nat} {v v' dv : Value} {bs bs' og : List Bub} {x : Bub}
theorem Reg.on (h : Reg w0 fb v bs xb x B dv og k W) (hb : Below W.heap.size W W') : Reg w0 fb v bs xb x B dv og k W' :=
  ⟨h.own.on hb, h.box.below hb h.box.lt, row_but h.row (But.of_below (X := Nob) hb) fun _ _ q => q, h.lo, h.xB, Nat.le_trans h.hB hb.size, h.sep⟩
theorem Reg.codes (h : Reg w0 fb v bs xb x B dv og k W) (ht : ForC fb v bs' W') (hb : But (OwnF fb v) W W') : Reg w0 fb v bs' xb x B dv og k W' :=
  ⟨h.own.turn ht hb, h.box.but hb (fun q => by have := h.sep _ q; omega), row_but h.row hb fun g hg q => by have := (h.row.lt g hg).1; have := h.sep g q; have := h.xB; omega, h.lo, h.xB, Nat.le_trans h.hB hb.size, h.sep⟩
theorem reg_app {ops : Array Oper} {rest : List Oper} {o : Oper} {a : Act} {Q : Exit → Act → World → Prop} (hgd : o.guard = none) (s e : Operand) (ho : o.op = .call { callee := .builtin .append, args := #[s, e], argTypes := #[25, 25] })
    (h : Reg w0 fb v bs xb x B dv og k W) (z : Bub) (hz : og[k]? = some z) (hk : k ≤ 32) (hs : a.eval s = dv) (hx : a.eval e = .slice (some ⟨W.heap.size, 0, none⟩) 1 1)
    (hK : ∀ dv' w', Reg w0 fb v bs xb x B dv' og (k + 1) w' → wpList Try.prog ops Q rest (a.put o.dst dv') w') : wpList Try.prog ops Q (o :: rest) a (W.alloc (.cells (bubL z).toArray 40)) := by
  obtain ⟨i0, hi0, hz0, hz1, hz2⟩ := info_parts infoBub
  have HZ19 : (Value.agg (bubL zB).toArray).cells.size = 19 := rfl
  have hal : Below W.heap.size W (W.alloc (.cells (bubL z).toArray 40)) := (Below.refl _ _).alloc (Nat.le_refl _) _
  have h1 := h.on hal
  refine wpList_append_lies _ hgd s e 25 ho B 40 i0 _ 19 152 Try.underlying25 hi0 hz0 hz1 hz2 HZ19 (by decide) dv k (bubC (og.take k)) hs h1.row ⟨W.heap.size, 0, none⟩ 1 1 (bubL z) hx (by rw [bubL_len]) (fun j u hu => by rw [Addr.add_mid]; exact blk_rangeB (Blk.new W _ _) j u hu) (bubL_one z) (by decide) (by unfold maxLen; omega) (by omega) h1.hB _ rfl ?_
  intro g c w' own gr hg hl
  have hb : But (fun q => dv.ownBlock = some q) (W.alloc (.cells (bubL z).toArray 40)) w' := (But.refl _ _).grown gr fun q hq => .inl hq
  have hdv : ∀ q, dv.ownBlock = some q → B ≤ q := fun q hq => (h1.row.lt q hq).1
  have hB' := h1.hB
  have hfb : ∀ q, OwnF fb v q → ¬ dv.ownBlock = some q := fun q hq e => by have := h1.sep q hq; have := hdv q e; have := h1.xB; omega
  refine hK _ _ ⟨⟨h1.own.tab.but hb hfb, h1.own.own, ?_⟩, h1.box.but hb (fun e => by have := hdv _ e; have := h1.xB; omega), ?_, h1.lo, h1.xB, Nat.le_trans hB' gr.size, h1.sep⟩
  · exact h1.own.below.grown gr h1.own.below.size fun q hq => by have := hdv q hq; have := h1.lo; have := h1.xB; omega
  · rw [show bubC (og.take (k + 1)) = bubC (og.take k) ++ bubL z by rw [List.take_add_one, hz, bubC_app]; simp [bubC_one]]
    exact own
set_option maxHeartbeats 20000000 in
theorem regen13_any (A : Option Addr) (l : List OpB) (cap : Nat) (b : Int) (w : World) (hml : l.length ≤ cap ∧ l.length ≤ maxLen) (hI : OpsB w A l) :
    Calls Try.prog 5 #[.slice A l.length cap, .int .i64 b] w (GotB w.heap.size (.bool true) w) := by
  have HR := Lib.hid (run13_any (fun _ => True) trivial (fun _ _ _ _ => trivial) A l cap w hml.2 hI)
  clear hI hml
  generalize l.length = N at *
  go_enter Try.func5, Try.ntmps5
  go_wp2_with fail
  refine HR.out.mono ?_
  rintro e w1 ⟨fb, v, bs, rfl, h1, -⟩
  dsimp only
  have HO1 := Lib.hid h1
  clear h1 HR
  cases hi : inB bs b with
  | false =>
    have HG := Lib.hid (fget_no b HO1.out.tab hi)
    have HBL : Hid (Below w.heap.size w w1) := HO1.out.below
    clear hi HO1
    generalize bs.length = n at *
    go_wp2_with fail
    refine HG.out.mono ?_
    rintro e w2 ⟨rfl, h2⟩
    dsimp only
    have HB2 := Lib.hid (HBL.out.trans (h2.mono HBL.out.size))
    have hst := store_bub zB w2
    have hz19 : (bubL zB).length = 19 := bubL_len zB
    generalize bubL zB = Z at *
    have HB3 : Hid (Below w.heap.size w (w2.alloc (.cells Z.toArray 40))) := HB2.out.alloc HB2.out.size _
    clear h2 HG HBL HB2
    go_wp2_with (go_at_call 17; (with_reducible refine (lives13_any _).mono ?_); rintro e w9 ⟨rfl, h9⟩; have H9 := Lib.hid h9; clear h9)
    go_ret
    exact ⟨rfl, HB3.out.trans (H9.out.mono HB3.out.size)⟩
  | true =>
    obtain ⟨i, x, rfl, hx⟩ := inB_nat hi
    have HG := Lib.hid (fget_at hx HO1.out.tab)
    have HX := Lib.hid hx
    obtain ⟨n, hn⟩ : ∃ n, bs.length = n := ⟨_, rfl⟩
    have HLN := Lib.hid hn
    have hn32 : n ≤ 32 := by have := HO1.out.tab.inv.len; omega
    rw [hn]
    clear hi hx hn
    go_wp2_with fail
    refine HG.out.mono ?_
    rintro e w2 ⟨rfl, h2⟩
    dsimp only
    have HO2 := Lib.hid (HO1.out.on h2)
    have hst := store_bub x w2
    have hal : Below w2.heap.size w2 (w2.alloc (.cells (bubL x).toArray 40)) := (Below.refl _ _).alloc (Nat.le_refl _) _
    have HO3 := Lib.hid (HO2.out.on hal)
    have hbx := Blk.new w2 40 (bubL x).toArray
    have HBX := Lib.hid hbx
    have y17 : (w2.alloc (.cells (bubL x).toArray 40)).cell? ⟨w2.heap.size, 17, none⟩ = some (.int .i64 x.state) := (hbx.cell 17).trans (by simpa using bubL_17 x)
    have hfl : ∀ k, OwnF fb v k → k < w2.heap.size := fun k q => HO2.out.tab.lt q
    have HFL := Lib.hid hfl
    have HLO : Hid (w.heap.size ≤ w2.heap.size) := HO2.out.below.size
    clear h2 HG HO1 HO2 hal hbx hfl
    by_cases hs : x.state = 3
    · rw [hs] at y17
      have HS3 := Lib.hid hs
      clear hs
      go_upto_region 5 with fail
      clear hst y17
      have HRG : Hid (Reg w fb v bs w2.heap.size x (w2.alloc (.cells (bubL x).toArray 40)).heap.size (.slice none 0 0) bs 0 (w2.alloc (.cells (bubL x).toArray 40))) :=
        ⟨HO3.out, HBX.out, ⟨rfl, .inl ⟨rfl, rfl⟩⟩, HLO.out, by simp, Nat.le_refl _, HFL.out⟩
      obtain ⟨B, hB⟩ : ∃ B, (w2.alloc (.cells (bubL x).toArray 40)).heap.size = B := ⟨_, rfl⟩
      rw [hB] at HRG
      generalize w2.alloc (.cells (bubL x).toArray 40) = w3 at *
      generalize w2.heap.size = xb at *
      clear hB HO3 HBX HFL HLO
      go_wp2_with fail
      go_loopw [9, 41] (fun dv iv wr => ∃ k : Nat, iv = .int .i64 k ∧ k ≤ n ∧ Reg w fb v bs xb x B dv bs k wr) (fun _ iv _ => n - (intOf iv).toNat)
      case atStart => exact ⟨0, rfl, Nat.zero_le _, HRG.out⟩
      case round =>
        obtain ⟨k, rfl, hk, hreg⟩ := hrel
        have HR := Lib.hid hreg; clear hreg HRG
        by_cases hlt : k < n
        · obtain ⟨z, hz⟩ : ∃ z, bs[k]? = some z := ⟨_, List.getElem?_eq_getElem (by have := HLN.out; omega)⟩
          have HGZ := Lib.hid (fget_at hz HR.out.own.tab)
          have HZ := Lib.hid hz
          have k0 : (0 : Int) ≤ (k : Int) := by omega
          have k1 : (k : Int) < (n : Int) := by omega
          have k2 : decide (k < n) = true := by simpa using hlt
          clear hz
          go_wp2_with fail
          refine HGZ.out.mono ?_
          rintro e w5 ⟨rfl, h5⟩
          dsimp only
          have HR5 := Lib.hid (HR.out.on h5)
          have hst := store_bub z w5
          have hal : Below w5.heap.size w5 (w5.alloc (.cells (bubL z).toArray 40)) := (Below.refl _ _).alloc (Nat.le_refl _) _
          have HR6 := Lib.hid (HR5.out.on hal)
          have HRN : Hid ((w5.alloc (.cells (bubL z).toArray 40)).rangeAt w5.heap.size 0 (bubL z)) := Lib.hid (blk_rangeB (Blk.new w5 _ _))
          have HIZ := Lib.hid (bubL_info z)
          have HBS := Lib.hid (build_slice_bub z)
          clear h5 HGZ HR5 HR hal
          go_wp2_with (first
            | (with_reducible (show wpList _ _ _ _ _ _); refine wpList_load_mid rfl 40 (.tmp 11) rfl w5.heap.size 0 rfl (bubL z) _ HRN.out Try.underlying40 rfl HIZ.out ?_)
            | (with_reducible (show wpList _ _ _ _ _ _); refine bslice_halt 1 _ rfl ?_))
          refine Lib.hid ?_
          clear hst
          generalize w5.alloc (.cells (bubL z).toArray 40) = w6 at *
          refine wpList_build_slice rfl 25 1 _ rfl #[(0, .agg (bubL z).toArray)] (by kernel_rfl) _ _ (HBS.out _) ?_
          refine reg_app rfl (.tmp 50) (.tmp 52) rfl HR6.out z HZ.out (by omega) rfl rfl ?_
          intro dv' w7 h7
          have HR7 := Lib.hid h7
          clear h7 HR6 HRN
          go_wp2_with fail
          go_roundw
          case rel => exact ⟨k + 1, by go_num, hlt, HR7.out⟩
          case measure => simp [intOf]; omega
        · have hkn : k = n := by omega
          have k1 : ¬ (k : Int) < (n : Int) := by omega
          have k2 : decide (k < n) = false := by simpa using hlt
          rw [hkn] at HR
          clear hkn hlt hk
          have hent := again_ent HR.out.own.tab.inv HX.out HS3.out
          obtain ⟨he, hr, hl2, hen⟩ := hent
          have hgd : ∃ g c, u9 = .slice (some ⟨g, 0, none⟩) n c := by
            rcases rowForm HR.out.row with ⟨_, q⟩ | q
            · have := (List.getElem?_eq_some_iff.1 HX.out).1; have := HLN.out; omega
            · exact q
          obtain ⟨gd, cd, rfl⟩ := hgd
          have HBu : Hid (Calls Try.prog 22 #[.pointer (some ⟨fb, 0, none⟩), .int .i64 i] wr fun e w' => ∃ u, e = .returned (.tuple #[u, .int .i64 0]) ∧ ForC fb v (burstT bs (i : Int)) w' ∧ But (OwnF fb v) wr w') := by
            have := fburst_any (i : Int) HR.out.own.tab
            unfold BurstP at this
            rw [he] at this
            exact Lib.hid (this.mono fun e w' ⟨u, a1, _, a3, a4⟩ => ⟨u, a1, a3, a4⟩)
          have HER := Lib.hid hr; have HEN := Lib.hid hen; have HL2 := Lib.hid hl2
          clear he hr hen hl2
          go_wp2_with fail
          refine HBu.out.mono ?_
          rintro e w4 ⟨u4, rfl, h4, b4⟩
          dsimp only
          have HR4 := Lib.hid (HR.out.codes h4 b4)
          have y18 : w4.cell? ⟨xb, 18, none⟩ = some (.int .i64 x.home) := (HR4.out.box.cell 18).trans (by simpa using bubL_18 x)
          have HRe : Hid (Calls Try.prog 23 #[.pointer (some ⟨fb, 0, none⟩), .int .i64 i, .int .i64 x.home] w4 fun e w' => ∃ u, e = .returned (.tuple #[u, .int .i64 0]) ∧ ForC fb v (regenT (burstT bs (i : Int)) (i : Int) x.home) w' ∧ But (OwnF fb v) w4 w') := by
            have := fregen_any (i : Int) x.home HR4.out.own.tab
            unfold RegenP at this
            rw [HER.out] at this
            exact Lib.hid (this.mono fun e w' ⟨u, a1, _, a3, a4⟩ => ⟨u, a1, a3, a4⟩)
          clear h4 b4 HBu HR HER
          go_wp2_with fail
          refine HRe.out.mono ?_
          rintro e w5 ⟨u5, rfl, h5, b5⟩
          dsimp only
          have HR5 := Lib.hid (HR4.out.codes h5 b5)
          clear h5 b5 HRe HR4 y18
          obtain ⟨B2, hB2⟩ : ∃ B2, regenT (burstT bs (i : Int)) (i : Int) x.home = B2 := ⟨_, rfl⟩
          rw [hB2] at HR5 HEN
          clear hB2 HL2
          go_wp2_with fail
          go_loopw [76] (fun iv wr => ∃ k : Nat, iv = .int .i64 k ∧ k ≤ n ∧ Reg w fb v B2 xb x B (.slice (some ⟨gd, 0, none⟩) n cd) bs n wr) (fun iv _ => n - (intOf iv).toNat)
          case atStart => exact ⟨0, rfl, Nat.zero_le _, HR5.out⟩
          case round =>
            obtain ⟨k, rfl, hk, hreg⟩ := hrel
            have HR := Lib.hid hreg; clear hreg HR5
            by_cases hlt : k < n
            · obtain ⟨z, hz⟩ : ∃ z, bs[k]? = some z := ⟨_, List.getElem?_eq_getElem (by have := HLN.out; omega)⟩
              obtain ⟨y, hy, hup, hmk, hst2, hyx⟩ := HEN.out k z hz
              have HGY := Lib.hid (fget_at hy HR.out.own.tab)
              have HZ := Lib.hid hz; have HUP := Lib.hid hup; have HMK := Lib.hid hmk; have HST2 := Lib.hid hst2; have HYX := Lib.hid hyx
              have k0 : (0 : Int) ≤ (k : Int) := by omega
              have k1 : (k : Int) < (n : Int) := by omega
              have k2 : decide (k < n) = true := by simpa using hlt
              clear hz hy hup hmk hst2 hyx
              go_wp2_with fail
              refine HGY.out.mono ?_
              rintro e w6 ⟨rfl, h6⟩
              dsimp only
              have HR6 := Lib.hid (HR.out.on h6)
              have hst := store_bub y w6
              have hal : Below w6.heap.size w6 (w6.alloc (.cells (bubL y).toArray 40)) := (Below.refl _ _).alloc (Nat.le_refl _) _
              have HR7 := Lib.hid (HR6.out.on hal)
              have hb18 := Blk.new w6 40 (bubL y).toArray
              have HBY := Lib.hid hb18
              clear h6 HGY HR HR6 hal hb18
              go_upto_region 20 with fail
              clear hst
              obtain ⟨b18, hb18⟩ : ∃ b18, w6.heap.size = b18 := ⟨_, rfl⟩
              rw [hb18] at HBY ⊢
              have hb18lt : b18 < (w6.alloc (.cells (bubL y).toArray 40)).heap.size := by rw [← hb18]; simp
              have HBLT := Lib.hid hb18lt
              clear hb18 hb18lt
              generalize w6.alloc (.cells (bubL y).toArray 40) = w7 at *
              have hrow : w7.ownsRow B 40 19 (.slice (some ⟨gd, 0, none⟩) n cd) bs.length (bubC bs) := by
                have := HR7.out.row
                rw [List.take_of_length_le (by have := HLN.out; omega)] at this
                rw [HLN.out]; exact this
              obtain ⟨g9, c9, e9, hrz, -⟩ := row_at hrow HZ.out
              simp only [Value.slice.injEq, Option.some.injEq, Addr.mk.injEq] at e9
              obtain ⟨⟨rfl, -, -⟩, -, -⟩ := e9
              have HRZ := Lib.hid hrz
              have HIZ := Lib.hid (bubL_info z)
              have hst := store_bub z w7
              have hal : Below w7.heap.size w7 (w7.alloc (.cells (bubL z).toArray 40)) := (Below.refl _ _).alloc (Nat.le_refl _) _
              have HR8 := Lib.hid (HR7.out.on hal)
              have HBY8 := Lib.hid (HBY.out.below hal HBLT.out)
              have HBZ8 := Lib.hid (Blk.new w7 40 (bubL z).toArray)
              clear hrow hrz hal HR7 HBY
              go_upto_region 21 with (with_reducible (show wpList _ _ _ _ _ _); refine wpList_load_mid rfl 40 (.tmp 87) rfl gd (k * 19) rfl (bubL z) _ HRZ.out Try.underlying40 rfl HIZ.out ?_)
              clear hst HRZ
              obtain ⟨b20, hb20⟩ : ∃ b20, w7.heap.size = b20 := ⟨_, rfl⟩
              rw [hb20] at HBZ8 HBLT ⊢
              have hw8 : (w7.alloc (.cells (bubL z).toArray 40)).heap.size = b20 + 1 := by rw [← hb20]; simp
              clear hb20
              generalize w7.alloc (.cells (bubL z).toArray 40) = w8 at *
              have HIN0 := Lib.hid (finside_any (k : Int) (i : Int) HR8.out.own.tab)
              obtain ⟨m, hm⟩ : ∃ m, z.mask = m := ⟨_, rfl⟩
              have HIX := Lib.hid (infoSet16 m)
              have HEQ : Hid (eqP m m = true) := eqP_true.2 fun _ _ => rfl
              have p0 : w8.cell? ⟨b18, 0, none⟩ = some (.int .i64 z.up) := (HBY8.out.cell 0).trans (by rw [← HUP.out]; rfl)
              have p17 : w8.cell? ⟨b18, 17, none⟩ = some (.int .i64 y.state) := (HBY8.out.cell 17).trans (by simpa using bubL_17 y)
              have q0 : w8.cell? ⟨b20, 0, none⟩ = some (.int .i64 z.up) := (HBZ8.out.cell 0).trans rfl
              have q17 : w8.cell? ⟨b20, 17, none⟩ = some (.int .i64 z.state) := (HBZ8.out.cell 17).trans (by simpa using bubL_17 z)
              have tup : (z.up != z.up) = false := by simp
              have PX : Hid (∀ W, Below w8.heap.size w8 W → W.cell? ⟨b18, 0, none⟩ = some (.int .i64 z.up)) := fun W hW => (hW.cell (p := ⟨b18, 0, none⟩) (by have := HBLT.out; show b18 < _; omega)).trans p0
              have QX : Hid (∀ W, Below w8.heap.size w8 W → W.cell? ⟨b20, 0, none⟩ = some (.int .i64 z.up)) := fun W hW => (hW.cell (p := ⟨b20, 0, none⟩) (by show b20 < _; omega)).trans q0
              have rng : ∀ (g : Nat) (q : Bub), q.mask = m → Blk w8 g 40 (bubL q).toArray → ∀ W, Below w8.heap.size w8 W → W.rangeAt g 1 (cellsOf m).toList := fun g q hq hb W hW j u hu => by
                have hbW := hb.below hW hb.lt
                rw [hbW.cell]
                simp only [List.getElem?_toArray, bubL]
                rw [show 1 + j = j + 1 by omega, List.getElem?_cons_succ, hq, List.getElem?_append_left (List.getElem?_eq_some_iff.1 hu).1]
                exact hu
              have RM1 : Hid (∀ W, Below w8.heap.size w8 W → W.rangeAt b18 1 (cellsOf m).toList) := rng b18 y (by rw [HMK.out, hm]) HBY8.out
              have RM2 : Hid (∀ W, Below w8.heap.size w8 W → W.rangeAt b20 1 (cellsOf m).toList) := rng b20 z hm HBZ8.out
              have RBX : Hid (∀ W, Below w8.heap.size w8 W → W.rangeAt xb 0 (bubL x)) := fun W hW => blk_rangeB (HR8.out.box.below hW HR8.out.box.lt)
              have RB0 : Hid (∀ W, Below w8.heap.size w8 W → W.rangeAt b18 0 (bubL y)) := fun W hW => blk_rangeB (HBY8.out.below hW HBY8.out.lt)
              clear rng hm HBZ8 HBLT hw8
              have hcase : y.state = z.state ∨ (y.state ≠ z.state ∧ y.state = 2 ∧ insideP B2 (k : Int) (i : Int) = true) := by
                by_cases q : y.state = z.state
                · exact .inl q
                · rcases HST2.out with q' | ⟨q1, q2⟩
                  · exact absurd q' q
                  · exact .inr ⟨q, q1, q2⟩
              by_cases hki : k = i
              · have RB1 : Hid (∀ W, Below w8.heap.size w8 W → W.rangeAt b18 0 (bubL x)) := by rw [← HYX.out hki]; exact RB0
                have ti : ((k : Int) == (i : Int)) = true := by simp [hki]
                have ti2 : (k == i) = true := by simp [hki]
                clear RB0 HBY8 hki
                rcases hcase with q | ⟨q, q1, q2⟩
                · rw [q] at p17
                  clear q HST2 HYX HUP HMK HIN0
                  have tst : (z.state != z.state) = false := by simp
                  clear PX QX
                  generalize z.state = zs at *
                  generalize z.up = zu at *
                  go_wp2_with (with_reducible (show wpList _ _ _ _ _ _); refine loadS_halt rfl (.tmp 114) rfl ?_)
                  refine Lib.hid ?_
                  refine loadG (by rfl) 29 (.tmp 114) rfl b18 1 rfl (cellsOf m).toList _ (RM1.out w8 (Below.refl _ _)) underSet rfl HIX.out ?_
                  go_wp2_with (with_reducible (show wpList _ _ _ _ _ _); refine loadS_halt rfl (.tmp 116) rfl ?_)
                  refine Lib.hid ?_
                  refine loadG (by rfl) 29 (.tmp 116) rfl b20 1 rfl (cellsOf m).toList _ (RM2.out w8 (Below.refl _ _)) underSet rfl HIX.out ?_
                  go_wp2_with (with_reducible (show wpList _ _ _ _ _ _); refine neqS_halt rfl (.tmp 115) (.tmp 117) rfl ?_)
                  refine Lib.hid ?_
                  refine neq_set (by rfl) (.tmp 115) (.tmp 117) _ rfl m m rfl rfl ?_
                  rw [HEQ.out]
                  go_wp2_with (with_reducible (show wpList _ _ _ _ _ _); refine loadB_halt rfl (.tmp 18) rfl ?_)
                  refine Lib.hid ?_
                  refine loadG (by rfl) 40 (.tmp 18) rfl b18 0 rfl (bubL x) _ (RB1.out w8 (Below.refl _ _)) Try.underlying40 rfl (bubL_info x) ?_
                  go_wp2_with (with_reducible (show wpList _ _ _ _ _ _); refine loadB_halt rfl (.tmp 7) rfl ?_)
                  refine Lib.hid ?_
                  refine loadG (by rfl) 40 (.tmp 7) rfl xb 0 rfl (bubL x) _ (RBX.out w8 (Below.refl _ _)) Try.underlying40 rfl (bubL_info x) ?_
                  go_wp2_with (with_reducible (show wpList _ _ _ _ _ _); refine neqB_halt rfl (.tmp 125) (.tmp 126) rfl ?_)
                  refine Lib.hid ?_
                  refine neqB_same (by rfl) (.tmp 125) (.tmp 126) rfl x rfl rfl ?_
                  go_wp2_with fail
                  go_roundw
                  case rel => exact ⟨k + 1, by go_num, hlt, HR8.out.on (Below.refl _ _)⟩
                  case measure => simp [intOf]; omega
                · have tst : ((2 : Int) != z.state) = true := by rw [q1] at q; simpa using q
                  rw [q1] at p17
                  have HIN := HIN0
                  rw [q2] at HIN
                  clear q q1 q2 HST2 HYX HUP HMK HIN0
                  generalize z.state = zs at *
                  generalize z.up = zu at *
                  go_wp2_with (first
                    | (with_reducible (show wpList _ _ _ _ _ _); refine loadS_halt rfl (.tmp 114) rfl ?_)
                    | (go_at_call 24; (with_reducible refine HIN.out.mono ?_); rintro e w9 ⟨rfl, h9⟩; have HB9 := Lib.hid h9; have p9 := PX.out w9 h9; have q9 := QX.out w9 h9; clear h9))
                  refine Lib.hid ?_
                  refine loadG (by rfl) 29 (.tmp 114) rfl b18 1 rfl (cellsOf m).toList _ (RM1.out w9 HB9.out) underSet rfl HIX.out ?_
                  go_wp2_with (with_reducible (show wpList _ _ _ _ _ _); refine loadS_halt rfl (.tmp 116) rfl ?_)
                  refine Lib.hid ?_
                  refine loadG (by rfl) 29 (.tmp 116) rfl b20 1 rfl (cellsOf m).toList _ (RM2.out w9 HB9.out) underSet rfl HIX.out ?_
                  go_wp2_with (with_reducible (show wpList _ _ _ _ _ _); refine neqS_halt rfl (.tmp 115) (.tmp 117) rfl ?_)
                  refine Lib.hid ?_
                  refine neq_set (by rfl) (.tmp 115) (.tmp 117) _ rfl m m rfl rfl ?_
                  rw [HEQ.out]
                  go_wp2_with (with_reducible (show wpList _ _ _ _ _ _); refine loadB_halt rfl (.tmp 18) rfl ?_)
                  refine Lib.hid ?_
                  refine loadG (by rfl) 40 (.tmp 18) rfl b18 0 rfl (bubL x) _ (RB1.out w9 HB9.out) Try.underlying40 rfl (bubL_info x) ?_
                  go_wp2_with (with_reducible (show wpList _ _ _ _ _ _); refine loadB_halt rfl (.tmp 7) rfl ?_)
                  refine Lib.hid ?_
                  refine loadG (by rfl) 40 (.tmp 7) rfl xb 0 rfl (bubL x) _ (RBX.out w9 HB9.out) Try.underlying40 rfl (bubL_info x) ?_
                  go_wp2_with (with_reducible (show wpList _ _ _ _ _ _); refine neqB_halt rfl (.tmp 125) (.tmp 126) rfl ?_)
                  refine Lib.hid ?_
                  refine neqB_same (by rfl) (.tmp 125) (.tmp 126) rfl x rfl rfl ?_
                  go_wp2_with fail
                  go_roundw
                  case rel => exact ⟨k + 1, by go_num, hlt, HR8.out.on HB9.out⟩
                  case measure => simp [intOf]; omega
              · have ti : ((k : Int) == (i : Int)) = false := by simp; omega
                have ti2 : (k == i) = false := by simpa using hki
                clear RB0 HBY8 RBX hki
                rcases hcase with q | ⟨q, q1, q2⟩
                · rw [q] at p17
                  clear q HST2 HYX HUP HMK HIN0
                  have tst : (z.state != z.state) = false := by simp
                  clear PX QX
                  generalize z.state = zs at *
                  generalize z.up = zu at *
                  go_wp2_with (with_reducible (show wpList _ _ _ _ _ _); refine loadS_halt rfl (.tmp 114) rfl ?_)
                  refine Lib.hid ?_
                  refine loadG (by rfl) 29 (.tmp 114) rfl b18 1 rfl (cellsOf m).toList _ (RM1.out w8 (Below.refl _ _)) underSet rfl HIX.out ?_
                  go_wp2_with (with_reducible (show wpList _ _ _ _ _ _); refine loadS_halt rfl (.tmp 116) rfl ?_)
                  refine Lib.hid ?_
                  refine loadG (by rfl) 29 (.tmp 116) rfl b20 1 rfl (cellsOf m).toList _ (RM2.out w8 (Below.refl _ _)) underSet rfl HIX.out ?_
                  go_wp2_with (with_reducible (show wpList _ _ _ _ _ _); refine neqS_halt rfl (.tmp 115) (.tmp 117) rfl ?_)
                  refine Lib.hid ?_
                  refine neq_set (by rfl) (.tmp 115) (.tmp 117) _ rfl m m rfl rfl ?_
                  rw [HEQ.out]
                  go_wp2_with fail
                  go_roundw
                  case rel => exact ⟨k + 1, by go_num, hlt, HR8.out.on (Below.refl _ _)⟩
                  case measure => simp [intOf]; omega
                · have tst : ((2 : Int) != z.state) = true := by rw [q1] at q; simpa using q
                  rw [q1] at p17
                  have HIN := HIN0
                  rw [q2] at HIN
                  clear q q1 q2 HST2 HYX HUP HMK HIN0
                  generalize z.state = zs at *
                  generalize z.up = zu at *
                  go_wp2_with (first
                    | (with_reducible (show wpList _ _ _ _ _ _); refine loadS_halt rfl (.tmp 114) rfl ?_)
                    | (go_at_call 24; (with_reducible refine HIN.out.mono ?_); rintro e w9 ⟨rfl, h9⟩; have HB9 := Lib.hid h9; have p9 := PX.out w9 h9; have q9 := QX.out w9 h9; clear h9))
                  refine Lib.hid ?_
                  refine loadG (by rfl) 29 (.tmp 114) rfl b18 1 rfl (cellsOf m).toList _ (RM1.out w9 HB9.out) underSet rfl HIX.out ?_
                  go_wp2_with (with_reducible (show wpList _ _ _ _ _ _); refine loadS_halt rfl (.tmp 116) rfl ?_)
                  refine Lib.hid ?_
                  refine loadG (by rfl) 29 (.tmp 116) rfl b20 1 rfl (cellsOf m).toList _ (RM2.out w9 HB9.out) underSet rfl HIX.out ?_
                  go_wp2_with (with_reducible (show wpList _ _ _ _ _ _); refine neqS_halt rfl (.tmp 115) (.tmp 117) rfl ?_)
                  refine Lib.hid ?_
                  refine neq_set (by rfl) (.tmp 115) (.tmp 117) _ rfl m m rfl rfl ?_
                  rw [HEQ.out]
                  go_wp2_with fail
                  go_roundw
                  case rel => exact ⟨k + 1, by go_num, hlt, HR8.out.on HB9.out⟩
                  case measure => simp [intOf]; omega
            · have hkn : k = n := by omega
              have k1 : ¬ (k : Int) < (n : Int) := by omega
              have k2 : decide (k < n) = false := by simpa using hlt
              have HBl : Hid (Below w.heap.size w wr) := HR.out.own.below
              clear hkn hlt hk HR
              go_wp2_with (go_at_call 17; (with_reducible refine (lives13_any _).mono ?_); rintro e w9 ⟨rfl, h9⟩; have H9 := Lib.hid h9; clear h9)
              go_ret
              exact ⟨rfl, HBl.out.trans (H9.out.mono HBl.out.size)⟩
    · have t1 : (x.state != 3) = true := by simpa using hs
      have HB3 := Lib.hid HO3.out.below
      clear HO3 HBX HFL hs
      generalize x.state = xs at *
      have hz19 : (bubL x).length = 19 := bubL_len x
      generalize bubL x = Z at *
      go_wp2_with (go_at_call 17; (with_reducible refine (lives13_any _).mono ?_); rintro e w9 ⟨rfl, h9⟩; have H9 := Lib.hid h9; clear h9)
      go_ret
      exact ⟨rfl, HB3.out.trans (H9.out.mono HB3.out.size)⟩
end
end Go.Proofs.Ytckdabokaelnoaa
