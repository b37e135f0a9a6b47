/- LintRuns' walk. -/
import Derived.Test.YtdjdmkgiidbnnaaDoorMj
import Derived.Test.YtdjdmkgiidbnnaaDoorG4
import Derived.Deep.DeepCutAuto
namespace Go.Proofs.YtdjdmkgiidbnnaaDoor
open Go.RowKit

/- As in XH1 and XR0: never import them beside this. -/
structure P2 (w W : World) (prio : Int) (A : Option Addr) (n cap : Nat) (r : R4) : Prop where
  tabs : Tabs W
  below : Below w.heap.size w W
  p : Blk W w.heap.size 24 #[.int .i64 prio, .slice A n cap]
  q : Blk W (w.heap.size + 1) 25 #[.int .i32 r.a, .int .i32 r.b, .int .i32 r.c, .int .i32 r.d]
theorem P2.new {w : World} (hT : Tabs w) (prio : Int) (A : Option Addr) (n cap : Nat) (r : R4) : P2 w ((w.alloc (.cells #[.int .i64 prio, .slice A n cap] 24)).alloc (.cells #[.int .i32 r.a, .int .i32 r.b, .int .i32 r.c, .int .i32 r.d] 25)) prio A n cap r := by
  obtain ⟨b, p, q⟩ := two (w := w) (t := 24) (u := 25) (a := #[.int .i64 prio, .slice A n cap]) (b := #[.int .i32 r.a, .int .i32 r.b, .int .i32 r.c, .int .i32 r.d])
  exact ⟨hT.on b, b, p, q⟩
theorem P2.on {w W W' : World} {prio : Int} {A : Option Addr} {n cap : Nat} {r : R4} (h : P2 w W prio A n cap r) (hb : Below W.heap.size W W') : P2 w W' prio A n cap r :=
  ⟨h.tabs.on hb, h.below.trans (hb.mono h.below.size), h.p.below hb h.p.lt, h.q.below hb h.q.lt⟩
theorem P2.cells {w W : World} {prio : Int} {A : Option Addr} {n cap : Nat} {r : R4} (h : P2 w W prio A n cap r) :
    W.cell? ⟨w.heap.size, 0, none⟩ = some (.int .i64 prio) ∧ W.cell? ⟨w.heap.size, 1, none⟩ = some (.slice A n cap) ∧
    W.cell? ⟨w.heap.size + 1, 0, none⟩ = some (.int .i32 r.a) ∧ W.cell? ⟨w.heap.size + 1, 1, none⟩ = some (.int .i32 r.b) ∧ W.cell? ⟨w.heap.size + 1, 2, none⟩ = some (.int .i32 r.c) ∧ W.cell? ⟨w.heap.size + 1, 3, none⟩ = some (.int .i32 r.d) ∧ w.heap.size + 1 < W.heap.size :=
  ⟨h.p.cell 0, h.p.cell 1, h.q.cell 0, h.q.cell 1, h.q.cell 2, h.q.cell 3, h.q.lt⟩
abbrev setR (W : World) (b : Nat) (g : R4) : World := (((W.setCell ⟨b, 0, none⟩ (.int .i32 g.a)).setCell ⟨b, 1, none⟩ (.int .i32 g.b)).setCell ⟨b, 2, none⟩ (.int .i32 g.c)).setCell ⟨b, 3, none⟩ (.int .i32 g.d)
theorem but_setR (W : World) (b : Nat) (g : R4) : But (fun k => k = b) W (setR W b g) := by
  have h1 := (But.refl (fun k => k = b) W).set ⟨b, 0, none⟩ (.int .i32 g.a) (.inl rfl)
  have h2 := h1.set ⟨b, 1, none⟩ (.int .i32 g.b) (.inl rfl)
  have h3 := h2.set ⟨b, 2, none⟩ (.int .i32 g.c) (.inl rfl)
  exact h3.set ⟨b, 3, none⟩ (.int .i32 g.d) (.inl rfl)
theorem Tabs.but {X : Nat → Prop} {W W' : World} (h : Tabs W) (hb : But X W W') (h1 : ¬ X 1) (h2 : ¬ X 0) : Tabs W' where
  names k hk := (World.cell?_of_block (hb.block _ h.size.1 h1)).trans (h.names k hk)
  r0 := (World.cell?_of_block (hb.block _ h.size.2 h2)).trans h.r0
  r1 := (World.cell?_of_block (hb.block _ h.size.2 h2)).trans h.r1
  r2 := (World.cell?_of_block (hb.block _ h.size.2 h2)).trans h.r2
  size := ⟨Nat.lt_of_lt_of_le h.size.1 hb.size, Nat.lt_of_lt_of_le h.size.2 hb.size⟩
/-- What a run along lint's places has in memory. -/
structure LR (w W : World) (prio : Int) (A : Option Addr) (n cap : Nat) (q : R4) (S : Nat → Bool) (G : Nat) : Prop where
  p : P2 w W prio A n cap q
  g : Blk W G 4 (boolC S n)
  lt : w.heap.size + 1 < G
section
variable {w W W' : World} {prio : Int} {A : Option Addr} {n cap G : Nat} {q : R4} {S : Nat → Bool}
theorem LR.on (h : LR w W prio A n cap q S G) (hb : Below W.heap.size W W') : LR w W' prio A n cap q S G := ⟨h.p.on hb, h.g.below hb h.g.lt, h.lt⟩
theorem LR.drew (h : LR w W prio A n cap q S G) : LR w W.drew prio A n cap q S G := h.on ⟨rfl, rfl, rfl, Nat.le_refl _, fun _ _ => rfl⟩
theorem LR.put (hw : Tabs w) (h : LR w W prio A n cap q S G) (r : R4) : LR w (setR W (w.heap.size + 1) r) prio A n cap r S G := by
  have s1 := hw.size.1; have s2 := hw.size.2
  have hb := but_setR W (w.heap.size + 1) r
  have hlt := h.lt
  exact ⟨⟨h.p.tabs.but hb (by omega) (by omega), h.p.below.trans (hb.below h.p.below.size fun k _ e => by omega), h.p.p.but hb (by omega), (((h.p.q.set_ 0 _).set_ 1 _).set_ 2 _).set_ 3 _⟩, h.g.but hb (by omega), h.lt⟩
end
set_option maxRecDepth 100000 in
set_option maxHeartbeats 16000000 in
theorem runs26_any (prio : Int) (A : Option Addr) (l : List I4) (cap : Nat) (r : R4) (w : World) (hT : Tabs w) (hI : InsIn w A l) :
    Calls Tryd.prog 7 #[.agg #[.int .i64 prio, .slice A l.length cap], regV r] w (GotB w.heap.size (.bool true) w) := by
  have P1 := P2.new hT prio A l.length cap r
  have HFN := fine26_any prio A l cap _ (hI.below P1.below)
  by_cases hfi : l.length ≤ 30 ∧ (progE prio l).1 = 0
  · rw [decide_eq_true hfi] at HFN
    have hf := fine_of hfi.2
    have hlen := hf.len
    have HRE : Hid (∀ W, Below w.heap.size w W → Calls Tryd.prog 19 #[.agg #[.int .i64 prio, .slice A l.length cap]] W fun e w' => ∃ (S : Nat → Bool) (G : Nat), e = .returned (.slice (some ⟨G, 0, none⟩) l.length l.length) ∧ (∀ k, S k = true ↔ Rch l k) ∧ Blk w' G 4 (boolC S l.length) ∧ W.heap.size ≤ G ∧ Below W.heap.size W w') := fun W h => Reach_any prio A l cap W (hI.below h) hf
    have HFN := Lib.hid HFN; have HP1 := Lib.hid P1; have HT := Lib.hid hT; have HI := Lib.hid hI; have HF := Lib.hid hf
    obtain ⟨N, hN⟩ : ∃ N, l.length = N := ⟨_, rfl⟩
    have HN := Lib.hid hN
    rw [hN] at HFN HP1 HRE hlen ⊢
    clear hf hT hI hfi hN P1
    obtain ⟨x0, x1, x2, x3, x4, x5, x6⟩ := HP1.out.cells
    go_enter Tryd.func7, Tryd.ntmps7
    go_wp2_with fail
    refine HFN.out.mono ?_
    rintro e w2 ⟨rfl, h2⟩
    have Q2 := Lib.hid (HP1.out.on h2)
    clear h2 x0 x1 x2 x3 x4 x5 x6 HFN HP1
    obtain ⟨x0, x1, x2, x3, x4, x5, x6⟩ := Q2.out.cells
    go_wp2_with fail
    refine (HRE.out w2 Q2.out.below).mono ?_
    rintro e w3 ⟨S, G, rfl, hS, hg, hsz, h3⟩
    dsimp only
    have HL3 : Hid (LR w w3 prio A N cap r S G) := ⟨Q2.out.on h3, hg, by omega⟩
    have HS := Lib.hid hS
    clear hS hg hsz h3 x0 x1 x2 x3 x4 x5 x6 Q2 HRE
    go_wp2_with fail
    go_loopw [6, 19] (fun pv i wr => ∃ (k t : Nat) (q : R4), pv = .int .i64 k ∧ i = .int .i64 t ∧ t ≤ 100 ∧ k < N ∧ Rch l k ∧ LR w wr prio A N cap q S G) (fun _ i _ => 100 - (intOf i).toNat)
    case atStart => exact ⟨0, 0, r, rfl, rfl, by omega, by omega, .zero, HL3.out⟩
    case round =>
      obtain ⟨k, t, q, rfl, rfl, ht, hk, hr, hL⟩ := hrel
      have HR := Lib.hid hr; have HLR := Lib.hid hL
      clear hr hL HL3
      by_cases hlt : t < 100
      · have hltI : (t : Int) < 100 := by omega
        obtain ⟨x, hx⟩ : ∃ x, l[k]? = some x := ⟨_, List.getElem?_eq_getElem (by rw [HN.out]; exact hk)⟩
        have g0 : wr.cell? ⟨G, k, none⟩ = some (.bool true) := by
          have := (HLR.out.g.cell k).trans (boolC_get S hk)
          rwa [(HS.out k).2 HR.out] at this
        obtain ⟨x0, x1, x2, x3, x4, x5, x6⟩ := HLR.out.p.cells
        have HST := Step_any prio A l cap k q wr HLR.out.p.tabs (HI.out.below HLR.out.p.below)
        rw [stepF_in (by rw [HF.out.ok]) hx, HN.out] at HST
        have hnx := nextP_step x k q
        have hop := HF.out.ins k x hx
        have hmay := HF.out.may hx (HI.out k x hx).1.n
        obtain ⟨j, hj, hjl⟩ := stepP_pc HF.out hx (HI.out k x hx).1.n q
        rw [HN.out] at hjl
        obtain ⟨R, hR⟩ : ∃ R, stepP x k q = R := ⟨_, rfl⟩
        rw [hR] at HST hnx hj
        have HST := Lib.hid HST
        have HNX : Hid (R.e.op ≠ 14 → R.pc ∈ nextP x k) := fun h => hnx h hmay.op
        have HX := Lib.hid hx
        clear hR hnx hop hmay hx
        obtain ⟨gp, ⟨ga, gb, gc, gd⟩, ⟨go, gr, gn⟩⟩ := R
        dsimp only at hj HNX
        subst hj
        have k0 : (0 : Int) ≤ (k : Int) := by omega
        have k1 : (k : Int) < (N : Int) := by omega
        go_wp2_with fail
        refine HST.out.mono ?_
        rintro e w5 ⟨rfl, h5⟩
        dsimp only
        obtain ⟨b7, r7, e7⟩ := two (w := w5) (t := 25) (u := 29) (a := #[.int .i32 ga, .int .i32 gb, .int .i32 gc, .int .i32 gd]) (b := #[.int .i64 go, .int .i64 gr, .int .i32 gn])
        have HL7 := Lib.hid ((HLR.out.on h5).on b7)
        have HR7 := Lib.hid r7
        clear h5 b7 r7 e7 HLR g0 x0 x1 x2 x3 x4 x5 x6 HST
        by_cases h14 : go = 14
        · subst h14
          have HV := Lib.hid (lives26_any ((w5.alloc (.cells #[.int .i32 ga, .int .i32 gb, .int .i32 gc, .int .i32 gd] 25)).alloc (.cells #[.int .i64 14, .int .i64 gr, .int .i32 gn] 29)))
          go_wp2_with (go_at_call 18; (with_reducible refine HV.out.mono ?_); rintro e w9 ⟨rfl, h9⟩; have H9 := Lib.hid h9; clear h9)
          go_ret
          exact ⟨rfl, HL7.out.p.below.trans (H9.out.mono HL7.out.p.below.size)⟩
        · have t14 : (go == 14) = false := by simpa using h14
          have hin := HNX.out h14
          obtain ⟨x0, x1, -⟩ := HL7.out.p.cells
          have HNC := next_any x prio A l cap k ((w5.alloc (.cells #[.int .i32 ga, .int .i32 gb, .int .i32 gc, .int .i32 gd] 25)).alloc (.cells #[.int .i64 go, .int .i64 gr, .int .i32 gn] 29)) (HI.out.below HL7.out.p.below) HX.out HF.out
          rw [HN.out] at HNC
          have HRN : Hid (Rch l j) := .step HR.out HX.out hin
          have hl2 := nextP_len x k
          obtain ⟨ys, hys⟩ : ∃ ys, nextP x k = ys := ⟨_, rfl⟩
          rw [hys] at HNC hin hl2
          have HNC := Lib.hid HNC; have HIN := Lib.hid hin
          clear hys hin h14 HNX
          go_upto_region 12 with fail
          generalize (w5.alloc (.cells #[.int .i32 ga, .int .i32 gb, .int .i32 gc, .int .i32 gd] 25)).alloc (.cells #[.int .i64 go, .int .i64 gr, .int .i32 gn] 29) = W7 at *
          generalize w5.heap.size + 1 = E7 at *
          generalize w5.heap.size = R8 at *
          go_wp2_with fail
          refine HNC.out.mono ?_
          rintro e w9 ⟨B9, cap9, rfl, hn9, h9, -⟩
          dsimp only
          have HL9 := Lib.hid (HL7.out.on h9); have HR9 := Lib.hid (HR7.out.below h9 HR7.out.lt); have HN9 := Lib.hid hn9
          clear hn9 h9 HL7 HR7 HNC x0 x1
          obtain ⟨m, hm⟩ : ∃ m, ys.length = m := ⟨_, rfl⟩
          have HM := Lib.hid hm
          rw [hm] at hl2 ⊢
          clear hm
          go_wp2_with fail
          go_loopw [10, 47] (fun bv i wx => ∃ (b : Bool) (z : Nat), bv = .bool b ∧ i = .int .i64 z ∧ z ≤ m ∧ wx = w9 ∧ b = decide ((j : Int) ∈ ys.take z)) (fun _ i _ => m - (intOf i).toNat)
          case atStart => exact ⟨false, 0, rfl, rfl, Nat.zero_le _, rfl, by simp⟩
          case round =>
            obtain ⟨b, z, rfl, rfl, hz, rfl, hb⟩ := hrel
            have HBB := Lib.hid hb
            clear hb
            by_cases hzm : z < m
            · obtain ⟨y, hy⟩ : ∃ y, ys[z]? = some y := ⟨_, List.getElem?_eq_getElem (by rw [HM.out]; exact hzm)⟩
              obtain ⟨bc, ofc, rfl, -, c0⟩ := HN9.out z y hy
              have z0 : (0 : Int) ≤ (z : Int) := by omega
              have z1 : (z : Int) < (m : Int) := by omega
              have htk : decide ((j : Int) ∈ ys.take (z + 1)) = (b || (y == (j : Int))) := by
                have hy' := (List.getElem?_eq_some_iff.1 hy).2
                rw [← List.take_append_getElem (List.getElem?_eq_some_iff.1 hy).1, hy', HBB.out]
                simp only [List.mem_append, List.mem_singleton, Bool.decide_or]
                congr 1
                rw [Bool.eq_iff_iff, decide_eq_true_iff, beq_iff_eq]
                exact eq_comm
              have HTK := Lib.hid htk
              clear htk hy
              cases b with
              | true =>
                go_wp2_with fail
                go_roundw
                case rel => exact ⟨true, z + 1, rfl, by go_num, by omega, by first | trivial | rfl, by rw [HTK.out]; rfl⟩
                case measure => simp [intOf]; omega
              | false =>
                obtain ⟨b2, hb2⟩ : ∃ b2, (y == (j : Int)) = b2 := ⟨_, rfl⟩
                rw [hb2] at HTK
                go_wp2_with fail
                go_roundw
                case rel => exact ⟨b2, z + 1, rfl, by go_num, by omega, by first | trivial | rfl, by rw [HTK.out]; rfl⟩
                case measure => simp [intOf]; omega
            · obtain rfl : z = m := by omega
              have tz : ¬ (z : Int) < (z : Int) := by omega
              have hbt : b = true := by
                rw [HBB.out, List.take_of_length_le (by rw [HM.out]; omega)]
                exact decide_eq_true HIN.out
              subst hbt
              clear HBB
              have u0 := HR9.out.cell 0; have u1 := HR9.out.cell 1; have u2 := HR9.out.cell 2; have u3 := HR9.out.cell 3
              simp only [List.getElem?_toArray, List.getElem?_cons_zero, List.getElem?_cons_succ] at u0 u1 u2 u3
              obtain ⟨-, -, x2, x3, x4, x5, x6⟩ := HL9.out.p.cells
              have xf : ∀ i, wr.frozen? ⟨w.heap.size + 1, i, none⟩ = false := fun i => HL9.out.p.q.free i
              have HFIN := Lib.hid (HL9.out.put HT.out ⟨ga, gb, gc, gd⟩).drew
              go_upto_region 19 with fail
              go_region
              go_wp2_with fail
              go_roundw
              case rel => exact ⟨j, t + 1, _, rfl, by go_num, by omega, hjl, HRN.out, HFIN.out⟩
              case measure => simp [intOf]; omega
      · obtain rfl : t = 100 := by omega
        have HV := Lib.hid (lives26_any wr)
        go_wp2_with (go_at_call 18; (with_reducible refine HV.out.mono ?_); rintro e w9 ⟨rfl, h9⟩; have H9 := Lib.hid h9; clear h9)
        go_ret
        exact ⟨rfl, HLR.out.p.below.trans (H9.out.mono HLR.out.p.below.size)⟩
  · rw [decide_eq_false hfi] at HFN
    have HFN := Lib.hid HFN; have HP1 := Lib.hid P1
    obtain ⟨x0, x1, x2, x3, x4, x5, x6⟩ := HP1.out.cells
    clear hfi P1 hT hI
    generalize l.length = N at *
    go_enter Tryd.func7, Tryd.ntmps7
    go_wp2_with fail
    refine HFN.out.mono ?_
    rintro e w2 ⟨rfl, h2⟩
    have Q2 := Lib.hid (HP1.out.on h2)
    have HV := Lib.hid (lives26_any w2)
    clear h2 x0 x1 x2 x3 x4 x5 x6 HFN HP1
    go_wp2_with (go_at_call 18; (with_reducible refine HV.out.mono ?_); rintro e w9 ⟨rfl, h9⟩; have H9 := Lib.hid h9; clear h9)
    go_ret
    exact ⟨rfl, Q2.out.below.trans (H9.out.mono Q2.out.below.size)⟩
end Go.Proofs.YtdjdmkgiidbnnaaDoor
