/- McsAlone's walk. -/
import Derived.Test.YtckdabokaelnoaaMl
import Derived.Test.YtckdabokaelnoaaMa
import Derived.Test.YtckdabokaelnoaaMc
import Derived.Test.YtckdabokaelnoaaMp
import Derived.Deep.CutBlock
namespace Go.Proofs.Ytckdabokaelnoaa
open Go.RowKit

theorem haltM {p : Prop} (h : Hid p) : p := h.out
def rowI (D : Lk) (q : List Nat) : List Int := (rowOf D q).map fun p : Nat => (p : Int)
/-- What McsAlone knows behind i things that were done: its row is L. -/
structure AlS (w0 : World) (b tb : Nat) (D : Lk) (q : List Nat) (T : Nat → Nat) (v : Value) (L : List Int) (i : Nat) (w : World) : Prop where
  l : LdM w0 b D w
  qi : QInv D q
  tk : TkM tb T w
  took : Took D T
  row : CutR w0.heap.size v L w
  tbn : w0.heap.size ≤ tb
  sep : tb ≠ b
  sr : ∀ k, RowB v k → k ≠ b ∧ k ≠ tb
  tle : ∀ k, T k ≤ i
  len : L.length ≤ i
theorem AlS.call {w0 : World} {b tb : Nat} {D D' : Lk} {q q' : List Nat} {T : Nat → Nat} {v : Value} {L : List Int} {i j : Nat} {w w' : World} (h : AlS w0 b tb D q T v L i w) (hl : LdM w0 b D' w') (hb : But (OneB b) w w') (hq : QInv D' q') (hT : Took D' T) (hij : i ≤ j) : AlS w0 b tb D' q' T v L j w' :=
  ⟨hl, hq, h.tk.but hb h.sep, hT, h.row.but hb (fun k hk => (h.sr k hk).1), h.tbn, h.sep, h.sr, fun k => Nat.le_trans (h.tle k) hij, Nat.le_trans h.len hij⟩
theorem AlS.set_ {w0 : World} {b tb : Nat} {D : Lk} {q : List Nat} {T : Nat → Nat} {v : Value} {L : List Int} {i : Nat} {w : World} (hl : LdM w0 b D w) (hq : QInv D q) (htk : TkM tb T w) (hrow : CutR w0.heap.size v L w) (hn : w0.heap.size ≤ tb) (hs : tb ≠ b) (hr : ∀ k, RowB v k → k ≠ b ∧ k ≠ tb) {k : Nat} (hk : k < 16) (m : Nat) (hT : Took D (updF T k m)) (hm : ∀ j, updF T k m j ≤ i) (hL : L.length ≤ i) :
    AlS w0 b tb D q (updF T k m) v L i (w.setCell ⟨tb, k, none⟩ (.int .i64 (m : Nat))) := by
  have hb : But (fun x => x = tb) w (w.setCell ⟨tb, k, none⟩ (.int .i64 (m : Nat))) := (But.refl _ w).set ⟨tb, k, none⟩ _ (.inl rfl)
  refine ⟨⟨hl.v.but hb (fun x => hs x.symm), hl.nice, ?_, hl.new⟩, hq, htk.set_ hk m, hT, hrow.but hb (fun x hx => (hr x hx).2), hn, hs, hr, hm, hL⟩
  exact hl.old.step hb fun x hx e => by have : x = tb := e; omega
theorem row_lift {D D' : Lk} {q q' : List Nat} {k : Nat} {c c2 : Prop} [Decidable c] [Decidable c2] (h : (if c then rowOf D q ++ [k] else rowOf D q) = (if c2 then k :: rowOf D' q' else rowOf D' q')) :
    (if c then rowI D q ++ [(k : Int)] else rowI D q) = (if c2 then (k : Int) :: rowI D' q' else rowI D' q') := by
  have := congrArg (List.map fun p : Nat => (p : Int)) h
  unfold rowI
  by_cases h1 : c
  · by_cases h2 : c2
    · rw [if_pos h1, if_pos h2, List.map_append] at this; rw [if_pos h1, if_pos h2]; exact this
    · rw [if_pos h1, if_neg h2, List.map_append] at this; rw [if_pos h1, if_neg h2]; exact this
  · by_cases h2 : c2
    · rw [if_neg h1, if_pos h2] at this; rw [if_neg h1, if_pos h2]; exact this
    · rw [if_neg h1, if_neg h2] at this; rw [if_neg h1, if_neg h2]; exact this
theorem make_tk (W : World) : ∃ Z : Array Value, (Instr.makeSlice 46 (.int .i64 16) (.int .i64 16)).run Try.prog W = .ok (.slice (some ⟨W.heap.size, 0, none⟩) 16 16) (W.alloc (.cells Z 3)) ∧ Z.size = 16 ∧ ∀ i, i < 16 → Z[i]? = some (.int .i64 0) := by
  obtain ⟨i0, hi0, hz0, hz1, hz2⟩ := info_parts infoInt
  refine ⟨madeCells (Value.int IntKind.i64 0).cells 16, ?_, by simp [madeCells], fun i hi => by simp [madeCells, Value.cells, hi, Nat.mod_one]⟩
  have := run_makeSlice (P := Try.prog) W 46 3 i0 (.int .i64 0) Try.underlying46 hi0 hz0 .i64 .i64 16 16 (by omega) (by omega) (by rw [hz1]; simp) (by rw [hz2]; omega) (by omega)
  simp only [hz1, Nat.mul_one] at this
  exact this
set_option maxRecDepth 100000 in
set_option maxHeartbeats 8000000 in
theorem alone29_any (p : Int) (A : Option Addr) (len cap : Nat) (K : Nat → Nat) (I : Nat → Int) (w : World) (hcap : len ≤ cap) (hI : OpsM w A len K I) :
    Calls Try.prog 12 #[.int .i64 p, .slice A len cap] w fun e w' => e = .returned (.bool true) ∧ Below w.heap.size w w' := by
  obtain ⟨n, hn⟩ : ∃ n : Nat, min (max p 1) 16 = (n : Int) := ⟨(min (max p 1) 16).toNat, by omega⟩
  have P := Lib.hid (new_ldm p n hn w)
  clear hn
  go_enter Try.func12, Try.ntmps12
  go_upto_region 1 with fail
  go_cut [1] (fun t wx => ∃ N : Nat, N ≤ 300 ∧ N ≤ len ∧ t = .slice A N cap ∧ w = wx)
  case first =>
    by_cases h60 : len ≤ 300
    · have t0 : ¬ (300 : Int) < len := by omega
      have t1 : (0 : Int) ≤ len := by omega
      have t2 : (len : Int) ≤ cap := by omega
      go_wp2_with fail
      go_meet
      exact ⟨len, h60, Nat.le_refl _, rfl, rfl⟩
    · have t0 : (300 : Int) < len := by omega
      have t2 : (300 : Int) ≤ cap := by omega
      have t3 : 300 ≤ cap := by omega
      go_wp2_with fail
      go_meet
      exact ⟨300, Nat.le_refl _, by omega, rfl, rfl⟩
  case rest =>
    obtain ⟨N, hN1, hN2, rfl, rfl⟩ := hcut
    have HI := Lib.hid (hI.less hN2)
    clear hI hcap hN2
    go_wp2_with fail
    refine P.out.mono ?_
    rintro e w1 ⟨b, rfl, h1⟩
    clear P
    obtain ⟨Z, hmk, hZ1, hZ2⟩ := make_tk w1
    have hS : AlS w b w1.heap.size (newL n) [] (fun _ => 0) (.slice none 0 0) (rowI (newL n) []) 0 (w1.alloc (.cells Z 3)) := by
      have hb1 : But Nob w1 (w1.alloc (.cells Z 3)) := (But.refl _ _).alloc _
      refine ⟨h1.nob hb1, qinv_new n, ⟨Z, hZ1, hZ2, Blk.new w1 _ _⟩, took_new n, cutR_nil _ _, h1.old.size, ?_, ?_, fun _ => Nat.le_refl _, by simp [rowI, rowOf]⟩
      · have := h1.v.lt; omega
      · rintro k ⟨_, _, _, e⟩; cases e
    have HS := Lib.hid hS
    clear hZ1 hZ2 hS h1
    go_wp2_with fail
    go_loopw [7, 24] (fun v iv wr => ∃ (i : Nat) (D : Lk) (q : List Nat) (T : Nat → Nat), i ≤ N ∧ iv = .int .i64 i ∧ AlS w b w1.heap.size D q T v (rowI D q) i wr) (fun _ iv _ => N - (intOf iv).toNat)
    case atStart => exact ⟨0, _, _, _, Nat.zero_le _, rfl, HS.out⟩
    case round =>
      obtain ⟨i, D, q, T, hi, rfl, hS⟩ := hrel
      by_cases hlt : i < N
      · obtain ⟨bb, off, rfl, hbb, hc0, hc1⟩ := (HI.out.below hS.l.below) i hlt
        generalize I i = who at hc1
        have k0 : (0 : Int) ≤ (i : Int) := by omega
        have k1 : (i : Int) < (N : Int) := by omega
        have hal : But Nob wr (wr.alloc (.cells #[.int .u64 (K i), .int .i64 who] 87)) := (But.refl Nob wr).alloc _
        have hA : AlS w b w1.heap.size D q T u7 (rowI D q) i (wr.alloc (.cells #[.int .u64 (K i), .int .i64 who] 87)) :=
          ⟨hS.l.nob hal, hS.qi, hS.tk.but hal id, hS.took, hS.row.but hal (fun _ _ => id), hS.tbn, hS.sep, hS.sr, hS.tle, hS.len⟩
        have hX := Blk.new wr 87 #[.int .u64 (K i), .int .i64 who]
        have x0 := hX.cell 0; have x1 := hX.cell 1
        simp only [List.getElem?_toArray, List.getElem?_cons_zero, List.getElem?_cons_succ] at x0 x1
        have HA := Lib.hid hA
        obtain ⟨r, hr⟩ : ∃ r, K i % 6 = r := ⟨_, rfl⟩
        have hr6 : r < 6 := by omega
        have e1 : (K i : Int) % 6 = (r : Int) := by omega
        have hi3 : i < 300 := by omega
        clear hS hX hA hal HS HI
        go_upto_block 2 with fail
        clear x0 x1 hc0 hc1 hbb
        generalize wr.alloc (.cells #[.int .u64 (K i), .int .i64 who] 87) = w4 at *
        go_cut [7, 32] (fun v _ wx => ∃ (D : Lk) (q : List Nat) (T : Nat → Nat), AlS w b w1.heap.size D q T v (rowI D q) (i + 1) wx)
        case first =>
          have hwn : Hid (w.heap.size ≤ w1.heap.size) := HA.out.tbn
          rcases (by omega : r = 0 ∨ r = 1 ∨ 2 ≤ r) with rfl | rfl | h2
          · have P := Lib.hid (take_ldm who HA.out.l)
            by_cases hok : begE D who 0 = 0
            · have hin : isN D who := by unfold begE at hok; split at hok <;> first | assumption | omega
              have hst : (D.cl who.toNat).st = 0 := by unfold begE at hok; rw [if_pos hin] at hok; split at hok <;> first | assumption | omega
              obtain ⟨k, rfl⟩ : ∃ k : Nat, who = k := ⟨who.toNat, by unfold isN at hin; omega⟩
              rw [Int.toNat_natCast] at hst
              have hkn : k < D.n := by unfold isN at hin; omega
              have hk16 : k < 16 := by have := HA.out.l.nice.n2; omega
              have b0 : (begE D k 0 == 0) = true := by simp [hok]
              have q0 : (0 : Int) ≤ (k : Int) := by omega
              have q1 : (k : Int) < 16 := by omega
              have q2 : decide ((k : Int) < 16) = true := by simp; omega
              have HST := Lib.hid hst; have HKN := Lib.hid hkn
              clear hok hin hst hkn
              generalize begE D k 0 = be at *
              go_upto_region 22 with (first
                | (go_at_call 42; (with_reducible refine P.out.mono ?_); rintro e w5 ⟨rfl, h5, hb5⟩; have H5 := Lib.hid h5; have HB5 := Lib.hid hb5; clear h5 hb5))
              have tk5 := HA.out.tk.but HB5.out HA.out.sep
              have f5 := tk5.free k
              have c5 := tk5.at_ hk16
              have TK5 := Lib.hid tk5; clear tk5
              go_wp2_with fail
              go_meet
              refine ⟨begT D k 0 0, q, updF T k 0, ?_⟩
              have hrow : rowI (begT D k 0 0) q = rowI D q := congrArg (List.map fun p : Nat => (p : Int)) (alone_begT HA.out.qi 0 0 (.inl ⟨rfl, rfl⟩) k)
              rw [hrow]
              refine AlS.set_ H5.out (qinv_begT HA.out.qi _ _ _ (.inl ⟨rfl, rfl⟩)) TK5.out (HA.out.row.but HB5.out (fun x hx => (HA.out.sr x hx).1)) HA.out.tbn HA.out.sep HA.out.sr hk16 0 (took_begT0 HA.out.took k HST.out HKN.out) (fun x => ?_) (by have := HA.out.len; omega)
              have := HA.out.tle x
              by_cases e : x = k
              · subst e; rw [updF_same]; omega
              · rw [updF_other _ _ e]; omega
            · have b0 : (begE D who 0 == 0) = false := by simpa using hok
              have hno : Hid (begT D who 0 0 = D) := by
                show _ = _
                unfold begT; rw [if_neg]
                rintro ⟨a, c⟩
                apply hok; unfold begE; rw [if_pos a, if_pos c]
              clear hok
              generalize begE D who 0 = be at *
              go_wp2_with (first
                | (go_at_call 42; (with_reducible refine P.out.mono ?_); rintro e w5 ⟨rfl, h5, hb5⟩; have H5 := Lib.hid h5; have HB5 := Lib.hid hb5; clear h5 hb5))
              go_meet
              have h5 := H5.out
              rw [hno.out] at h5
              exact ⟨D, q, T, HA.out.call h5 HB5.out HA.out.qi HA.out.took (by omega)⟩
          · have P := Lib.hid (give_ldm who HA.out.l)
            go_wp2_with (first
              | (go_at_call 44; (with_reducible refine P.out.mono ?_); rintro e w5 ⟨rfl, h5, hb5⟩; have H5 := Lib.hid h5; have HB5 := Lib.hid hb5; clear h5 hb5))
            go_meet
            refine ⟨begT D who 2 5, q, T, ?_⟩
            have hrow : rowI (begT D who 2 5) q = rowI D q := congrArg (List.map fun p : Nat => (p : Int)) (alone_begT HA.out.qi 2 5 (.inr ⟨rfl, rfl⟩) who)
            rw [hrow]
            exact HA.out.call H5.out HB5.out (qinv_begT HA.out.qi _ _ _ (.inr ⟨rfl, rfl⟩)) (took_begT2 HA.out.took who) (by omega)
          · have r0 : (r == 0) = false := by simp; omega
            have r1 : (r == 1) = false := by simp; omega
            have r2 : ((r : Int) == 0) = false := by simp; omega
            have r3 : ((r : Int) == 1) = false := by simp; omega
            have PS := Lib.hid (state_ldm who HA.out.l)
            have PT := Lib.hid (step_ldm who HA.out.l)
            by_cases hw1 : stI D who = 1
            · have hin : isN D who := by unfold stI at hw1; split at hw1 <;> first | assumption | omega
              obtain ⟨k, rfl⟩ : ∃ k : Nat, who = k := ⟨who.toNat, by unfold isN at hin; omega⟩
              have hkn : k < D.n := by unfold isN at hin; omega
              have hk16 : k < 16 := by have := HA.out.l.nice.n2; omega
              have hst : (D.cl k).st = 1 := by unfold stI at hw1; rw [if_pos hin, Int.toNat_natCast] at hw1; omega
              have hstep : stpT D k = stepL D k := by unfold stpT; rw [if_pos ⟨hin, by rw [Int.toNat_natCast]; exact .inl hst⟩, Int.toNat_natCast]
              rw [hw1] at PS
              rw [hstep] at PT
              obtain ⟨a1, a2, a3⟩ := alone_one HA.out.qi HA.out.l.nice HA.out.took hkn hst
              have hQ := Lib.hid (qinv_step HA.out.qi HA.out.l.nice hkn (.inl hst))
              obtain ⟨D', hD'⟩ : ∃ D', stepL D k = D' := ⟨_, rfl⟩
              obtain ⟨q', hq'⟩ : ∃ q', qstep D k q = q' := ⟨_, rfl⟩
              have hn' : D'.n = D.n := by rw [← hD']; exact stepL_n D k
              rw [hD', hq'] at a1 hQ; rw [hD'] at a2 a3 PT
              obtain ⟨L1, hL1⟩ : ∃ L1 : List Int, (if T k + 1 = 3 then rowI D q ++ [(k : Int)] else rowI D q) = L1 := ⟨_, rfl⟩
              have hL2 : L1 = if (D'.cl k).st = 2 then (k : Int) :: rowI D' q' else rowI D' q' := by
                rw [← hL1]; exact row_lift a1
              have HL1 := Lib.hid hL1; have HL2 := Lib.hid hL2; have HA2 := Lib.hid a2; have HA3 := Lib.hid a3
              have hstI : Hid (stI D' k = ((D'.cl k).st : Int)) := by show _ = _; unfold stI; rw [if_pos (by unfold isN; omega), Int.toNat_natCast]
              have hTk := HA.out.tle k
              have q0 : (0 : Int) ≤ (k : Int) := by omega
              have q1 : (k : Int) < 16 := by omega
              have q2 : decide ((k : Int) < 16) = true := by simp; omega
              clear a1 a2 a3 hL1 hL2 hst hstep hw1 hin hkn hn'
              go_upto_region 13 with (first
                | (go_at_call 47; (with_reducible refine PS.out.mono ?_); rintro e wq ⟨rfl, rfl⟩)
                | (go_at_call 45; (with_reducible refine PT.out.mono ?_); rintro e w5 ⟨rfl, h5, hb5⟩; have H5 := Lib.hid h5; have HB5 := Lib.hid hb5; clear h5 hb5))
              have tk5 := HA.out.tk.but HB5.out HA.out.sep
              have f5 := tk5.free k
              have c5 := tk5.at_ hk16
              have TK5 := Lib.hid tk5; clear tk5
              go_cut [] (fun wx => AlS w b w1.heap.size D' q' (updF T k (T k + 1)) u7 (rowI D q) (i + 1) wx)
              case first =>
                go_wp2_with fail
                go_meet
                refine AlS.set_ H5.out hQ.out TK5.out (HA.out.row.but HB5.out (fun x hx => (HA.out.sr x hx).1)) HA.out.tbn HA.out.sep HA.out.sr hk16 (T k + 1) HA3.out (fun x => ?_) (by have := HA.out.len; omega)
                have := HA.out.tle x
                by_cases e : x = k
                · subst e; rw [updF_same]; omega
                · rw [updF_other _ _ e]; omega
              case rest =>
                rename World => w6
                generalize T k + 1 = tk1 at *
                have h6 := hcut
                have c6 := h6.tk.at_ hk16
                rw [updF_same] at c6
                have H6 := Lib.hid h6
                clear h6 hcut f5 c5 TK5 H5 HB5 PT PS
                go_upto_if 59 with fail
                go_cut [7] (fun v wx => AlS w b w1.heap.size D' q' (updF T k tk1) v L1 (i + 1) wx)
                case first =>
                  by_cases h3 : tk1 = 3
                  · have t3 : ((tk1 : Int) == 3) = true := by simp; omega
                    have t4 : (tk1 == 3) = true := by simp; omega
                    have hl1 : rowI D q ++ [(k : Int)] = L1 := by rw [← HL1.out, if_pos h3]
                    have hrow : CutR w.heap.size u7 (rowI D q) (w6.alloc (.cells #[.int .i64 (k : Int)] 3)) := H6.out.row.but ((But.refl Nob w6).alloc _) (fun _ _ => id)
                    have hbs : (w6.alloc (.cells #[.int .i64 (k : Int)] 3)).cell? ⟨w6.heap.size, 0, none⟩ = some (.int .i64 (k : Int)) := (Blk.new w6 3 #[.int .i64 (k : Int)]).cell 0
                    have hsz : w.heap.size ≤ (w6.alloc (.cells #[.int .i64 (k : Int)] 3)).heap.size := by have := H6.out.l.below.size; simp; omega
                    have hlen := HA.out.len
                    have HR := Lib.hid hrow; have HBS := Lib.hid hbs; have HLL := Lib.hid hl1
                    clear hrow hbs hl1 h3
                    go_wp2_with (at_builtin; refine haltM ?_)
                    refine Lib.hid ?_
                    refine app_cut rfl (.tmp 60) (.tmp 62) rfl w.heap.size u7 (rowI D q) rfl HR.out _ (k : Int) rfl HBS.out (by omega) hsz ?_
                    intro v' w9 own9 but9 new9
                    rw [HLL.out] at own9
                    have H9 : Hid (AlS w b w1.heap.size D' q' (updF T k tk1) v' L1 (i + 1) w9) := by
                      have h6 := H6.out
                      have hb9 : But (RowB u7) w6 w9 := ((But.refl _ w6).alloc _).trans but9
                      have hs6 : (w6.alloc (.cells #[.int .i64 (k : Int)] 3)).heap.size = w6.heap.size + 1 := by simp
                      have hbl := h6.l.v.lt
                      have htl := h6.tk.lt
                      refine ⟨⟨h6.l.v.but hb9 (fun x => (h6.sr _ x).1 rfl), h6.l.nice, ?_, h6.l.new⟩, h6.qi, h6.tk.but hb9 (fun x => (h6.sr _ x).2 rfl), h6.took, own9, h6.tbn, h6.sep, fun x hx => ?_, h6.tle, ?_⟩
                      · exact h6.l.old.step hb9 fun x hx e => by have := (h6.row.lt e).1; omega
                      · rcases new9 x hx with y | y
                        · exact h6.sr x y
                        · rw [hs6] at y; omega
                      · rw [← HLL.out]; simp; omega
                    clear own9 but9 new9 HR HBS H6
                    go_wp2_with fail
                    go_meet
                    exact H9.out
                  · have t3 : ((tk1 : Int) == 3) = false := by simp; omega
                    have t4 : (tk1 == 3) = false := by simp; omega
                    have hl1 : rowI D q = L1 := by rw [← HL1.out, if_neg h3]
                    have HLL := Lib.hid hl1
                    clear h3 hl1
                    go_wp2_with fail
                    go_meet
                    have := H6.out
                    rw [HLL.out] at this
                    exact this
                case rest =>
                  have H7 := Lib.hid hcut
                  rename World => w7
                  clear hcut H6 c6
                  have PS := state_ldm (k : Int) H7.out.l
                  rw [hstI.out] at PS
                  by_cases h2 : (D'.cl k).st = 2
                  · rw [h2] at PS
                    have HPS := Lib.hid PS; clear PS
                    have hl2 := HL2.out
                    rw [if_pos h2] at hl2
                    have h7 := H7.out
                    rw [hl2] at h7
                    obtain ⟨rb, ro, rc, rfl, hrc, hc0, hcr, hrb⟩ := h7.row.cons
                    have H8 := Lib.hid h7; have HCR := Lib.hid hcr
                    have hlen : (rowI D' q').length ≤ i := by have := h7.len; simp at this; exact this
                    clear h7 hl2 H7 h2 hcr hrb
                    obtain ⟨R, hR⟩ : ∃ R, rowI D' q' = R := ⟨_, rfl⟩
                    have HRR := Lib.hid hR
                    rw [hR] at hrc hlen H8 HCR
                    rw [hR]
                    clear hR
                    rcases Nat.eq_zero_or_pos rc with z | z
                    · subst z
                      have hR0 : R = [] := List.eq_nil_of_length_eq_zero (by omega)
                      subst hR0
                      have hce := H8.out.row.empty rfl
                      have HCE := Lib.hid hce
                      clear hce hrc hlen
                      go_wp2_with (first
                        | (go_at_call 47; (with_reducible refine HPS.out.mono ?_); rintro e wq ⟨rfl, rfl⟩))
                      go_meet
                      refine ⟨D', q', updF T k tk1, ?_⟩
                      rw [HRR.out]
                      have h8 := H8.out
                      exact ⟨h8.l, h8.qi, h8.tk, h8.took, HCE.out, h8.tbn, h8.sep, fun x hx => h8.sr x (by obtain ⟨_, _, _, e⟩ := hx; cases e; exact ⟨_, _, _, rfl⟩), h8.tle, by simp⟩
                    · obtain ⟨m, hm⟩ : ∃ m, R.length = m := ⟨_, rfl⟩
                      have HM := Lib.hid hm
                      rw [hm] at hrc hlen
                      obtain ⟨c, rfl⟩ : ∃ c, rc = c + 1 := ⟨rc - 1, by omega⟩
                      have HCR2 : Hid (CutR w.heap.size (.slice (some ⟨rb, ro + 1, none⟩) m (c + 1)) R w7) := by have := HCR.out; rw [hm] at this; exact this
                      clear hm HCR
                      have t0 : ¬ ((m : Int) + 1 = 0) := by omega
                      have t1 : (((m : Int) + 1) == 0) = false := by simp; omega
                      have t2 : (((m + 1 : Nat) : Int) == 0) = false := by simp; omega
                      have t3 : ¬ (((m + 1 : Nat) : Int) = 0) := by omega
                      go_wp2_with (first
                        | (go_at_call 47; (with_reducible refine HPS.out.mono ?_); rintro e wq ⟨rfl, rfl⟩))
                      go_meet
                      refine ⟨D', q', updF T k tk1, ?_⟩
                      rw [HRR.out]
                      have h8 := H8.out
                      exact ⟨h8.l, h8.qi, h8.tk, h8.took, (by have := HCR2.out; rw [← HM.out] at this; exact this), h8.tbn, h8.sep, fun x hx => h8.sr x (by obtain ⟨_, _, _, e⟩ := hx; cases e; exact ⟨_, _, _, rfl⟩), h8.tle, by rw [HM.out]; omega⟩
                  · have h1 : (D'.cl k).st = 1 := by have := HA2.out; omega
                    rw [h1] at PS
                    have HPS := Lib.hid PS; clear PS
                    have hl2 := HL2.out
                    rw [if_neg h2] at hl2
                    have h7 := H7.out
                    rw [hl2] at h7
                    have H8 := Lib.hid h7
                    clear h7 hl2 H7 h2 h1
                    go_wp2_with (first
                      | (go_at_call 47; (with_reducible refine HPS.out.mono ?_); rintro e wq ⟨rfl, rfl⟩))
                    go_meet
                    exact ⟨D', q', updF T k tk1, H8.out⟩
            · have hrest : Hid (∃ q', rowI (stpT D who) q' = rowI D q ∧ QInv (stpT D who) q' ∧ Took (stpT D who) T) := by
                show ∃ q', _
                by_cases ha : actB D who
                · have hk : who.toNat < D.n := by have := ha.1; unfold isN at this; omega
                  have h3 : (D.cl who.toNat).st = 3 := by
                    rcases ha.2 with x | x
                    · exfalso; apply hw1; unfold stI; rw [if_pos ha.1, x]; rfl
                    · exact x
                  have e : stpT D who = stepL D who.toNat := by unfold stpT; rw [if_pos ha]
                  obtain ⟨a1, a2⟩ := alone_three HA.out.qi hk h3 HA.out.l.nice HA.out.took
                  rw [e]
                  exact ⟨_, congrArg (List.map fun p : Nat => (p : Int)) a1, qinv_step HA.out.qi HA.out.l.nice hk ha.2, a2⟩
                · have e : stpT D who = D := by unfold stpT; rw [if_neg ha]
                  rw [e]; exact ⟨q, rfl, HA.out.qi, HA.out.took⟩
              have s1 : (stI D who == 1) = false := by simpa using hw1
              clear hw1
              generalize stI D who = z at *
              rcases (by omega : who < 0 ∨ (0 ≤ who ∧ 16 ≤ who) ∨ (0 ≤ who ∧ who < 16)) with c | ⟨c, c2⟩ | ⟨c, c2⟩
              all_goals
                first | have d0 : ¬ 0 ≤ who := by omega | skip
                first | have d1 : ¬ who < 16 := by omega | skip
                first | have d2 : decide (who < 16) = false := by simp; omega | skip
                first | have d2 : decide (who < 16) = true := by simp; omega | skip
                go_wp2_with (first
                  | (go_at_call 47; (with_reducible refine PS.out.mono ?_); rintro e wq ⟨rfl, rfl⟩)
                  | (go_at_call 45; (with_reducible refine PT.out.mono ?_); rintro e w5 ⟨rfl, h5, hb5⟩; have H5 := Lib.hid h5; have HB5 := Lib.hid hb5; clear h5 hb5))
                go_meet
                obtain ⟨q', e1, e2, e3⟩ := hrest.out
                refine ⟨stpT D who, q', T, ?_⟩
                rw [e1]
                exact HA.out.call H5.out HB5.out e2 e3 (by omega)
        case rest =>
          obtain ⟨D', q', T', h5⟩ := hcut
          rename World => w5
          have H5 := Lib.hid h5; clear h5 HA
          have hin : Hid (∀ m, inN D' m ≤ 1) := inN_le H5.out.qi H5.out.l.nice
          go_wp2_with fail
          go_loopw [12, 13, 102] (fun cv sv iv wr => ∃ (m : Nat) (u : Value), m ≤ 16 ∧ cv = .int .i64 (inN D' m : Nat) ∧ u = sv ∧ iv = .int .i64 m ∧ w5 = wr) (fun _ _ iv _ => 16 - (intOf iv).toNat)
          case atStart => exact ⟨0, _, by omega, rfl, rfl, rfl, rfl⟩
          case round =>
            obtain ⟨m, us, hm, rfl, rfl, rfl, rfl⟩ := hrel
            have b1 := hin.out m
            by_cases hlt2 : m < 16
            · have k2 : (0 : Int) ≤ (m : Int) := by omega
              have k3 : (m : Int) < 16 := by omega
              have PS := Lib.hid (state_ldm (m : Int) H5.out.l)
              have hsu : Hid (inN D' (m + 1) = inN D' m + (if 2 ≤ stI D' (m : Int) then 1 else 0)) := rfl
              by_cases h2 : 2 ≤ stI D' (m : Int)
              · have h3 := hsu.out
                rw [if_pos h2] at h3
                clear hsu
                have hsu := Lib.hid h3; clear h3
                have d2 : decide (2 ≤ stI D' (m : Int)) = true := by simpa using h2
                generalize stI D' (m : Int) = z at *
                go_wp2_with (first
                  | (go_at_call 47; (with_reducible refine PS.out.mono ?_); rintro e wq ⟨rfl, rfl⟩))
                go_roundw
                case rel => exact ⟨m + 1, _, by omega, by rw [hsu.out]; go_num, rfl, by go_num, by trivial⟩
                case measure => simp [intOf]; omega
              · have h3 := hsu.out
                rw [if_neg h2] at h3
                clear hsu
                have hsu := Lib.hid h3; clear h3
                have d2 : decide (2 ≤ stI D' (m : Int)) = false := by simpa using h2
                generalize stI D' (m : Int) = z at *
                go_wp2_with (first
                  | (go_at_call 47; (with_reducible refine PS.out.mono ?_); rintro e wq ⟨rfl, rfl⟩))
                go_roundw
                case rel => exact ⟨m + 1, _, by omega, by rw [hsu.out]; rfl, rfl, by go_num, by trivial⟩
                case measure => simp [intOf]; omega
            · have hm16 : m = 16 := by omega
              have k3 : ¬ (m : Int) < 16 := by omega
              have b2 : ¬ (1 : Int) < (inN D' m : Int) := by omega
              have b3 : decide (1 < inN D' m) = false := by simp; omega
              have b4 : decide ((1 : Int) < (inN D' m : Int)) = false := by simp; omega
              clear hm16
              go_wp2_with fail
              go_roundw
              case rel => exact ⟨i + 1, D', q', T', hlt, by go_num, H5.out⟩
              case measure => simp [intOf]; omega
      · obtain rfl : i = N := by omega
        have HB : Hid (Below w.heap.size w wr) := hS.l.below
        clear hS HS
        go_wp2_with (first
          | (go_at_call 49; (with_reducible refine (lives29_any _).mono ?_); rintro e wl ⟨rfl, hl⟩; have HT3 := Lib.hid hl; clear hl))
        go_ret
        exact ⟨rfl, HB.out.trans (HT3.out.mono HB.out.size)⟩
end Go.Proofs.Ytckdabokaelnoaa
