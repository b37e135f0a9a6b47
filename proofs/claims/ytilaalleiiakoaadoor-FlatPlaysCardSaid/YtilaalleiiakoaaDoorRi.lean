/- The document's Check of layer 9. -/
import Derived.Test.YtilaalleiiakoaaDoorRk
namespace Go.Proofs.YtilaalleiiakoaaDoor
open Go.RowKit

theorem _root_.Go.RowKit.Below.drewN_ {B : Nat} {a w : World} (h : Below B a w) (n : Nat) : Below B a (w.drewN n) := ⟨h.os, h.tape, h.output, h.size, h.block⟩
theorem flipW {f : Nat} {args : Array Value} {v : Value} (h : ∀ w, Calls Tryd.prog f args w fun e w' => e = .returned v ∧ w = w') (w : World) : Calls Tryd.prog f args w fun e w' => e = .returned v ∧ w' = w :=
  (h w).mono fun _ _ ⟨q1, q2⟩ => ⟨q1, q2.symm⟩
theorem reg_is (r : Int) (had x : Bool) (h : regOk r had = x) (w : World) : Calls Tryd.prog 48 #[.bool had, .int .i64 r] w fun e w' => e = .returned (.bool (!x)) ∧ w = w' := by rw [← h]; exact reg_any r had w
theorem insE_a {op a b n places : Int} (h : 1 ≤ op ∧ op ≤ 14) (q : regOk a (hasA op) = false) : insE ⟨op, a, b, n⟩ places = 31 := by
  have h' : ¬ (op < 1 ∨ 14 < op) := by omega
  simp only [insE, if_neg h', q, true_or, if_true]
theorem insE_b {op a b n places : Int} (h : 1 ≤ op ∧ op ≤ 14) (q : regOk b (hasB op) = false) : insE ⟨op, a, b, n⟩ places = 31 := by
  have h' : ¬ (op < 1 ∨ 14 < op) := by omega
  simp only [insE, if_neg h', q, or_true, if_true]
theorem insE_n {op a b n places : Int} (h : 1 ≤ op ∧ op ≤ 14) (p : regOk a (hasA op) = true) (q : regOk b (hasB op) = true) : insE ⟨op, a, b, n⟩ places = numE op n places := by
  have h' : ¬ (op < 1 ∨ 14 < op) := by omega
  simp [insE, if_neg h', p, q]
theorem has_shape (op : Int) (h : ¬ (op < 1 ∨ 14 < op)) :
    (∀ W, Calls Tryd.prog 49 #[.string (shapeS op), .int .u8 65] W fun e w' => e = .returned (.bool (hasA op)) ∧ W = w') ∧
    (∀ W, Calls Tryd.prog 49 #[.string (shapeS op), .int .u8 66] W fun e w' => e = .returned (.bool (hasB op)) ∧ W = w') ∧
    (∀ W, Calls Tryd.prog 49 #[.string (shapeS op), .int .u8 78] W fun e w' => e = .returned (.bool (hasN op)) ∧ W = w') := by
  have hl : op = 1 ∨ op = 2 ∨ op = 3 ∨ op = 4 ∨ op = 5 ∨ op = 6 ∨ op = 7 ∨ op = 8 ∨ op = 9 ∨ op = 10 ∨ op = 11 ∨ op = 12 ∨ op = 13 ∨ op = 14 := by omega
  clear h
  rcases hl with rfl | rfl | rfl | rfl | rfl | rfl | rfl | rfl | rfl | rfl | rfl | rfl | rfl | rfl
  · exact ⟨hasA_AN, hasB_AN, hasN_AN⟩
  · exact ⟨hasA_AB, hasB_AB, hasN_AB⟩
  · exact ⟨hasA_AB, hasB_AB, hasN_AB⟩
  · exact ⟨hasA_N, hasB_N, hasN_N⟩
  · exact ⟨hasA_AN, hasB_AN, hasN_AN⟩
  · exact ⟨hasA_O, hasB_O, hasN_O⟩
  · exact ⟨hasA_AN, hasB_AN, hasN_AN⟩
  · exact ⟨hasA_AB, hasB_AB, hasN_AB⟩
  · exact ⟨hasA_AN, hasB_AN, hasN_AN⟩
  · exact ⟨hasA_AN, hasB_AN, hasN_AN⟩
  · exact ⟨hasA_A, hasB_A, hasN_A⟩
  · exact ⟨hasA_AN, hasB_AN, hasN_AN⟩
  · exact ⟨hasA_A, hasB_A, hasN_A⟩
  · exact ⟨hasA_A, hasB_A, hasN_A⟩
/-- What a round of Check begins with: the box of the program, that of the instruction. -/
structure RdC (w : World) (prio : Int) (A : Option Addr) (n cap : Nat) (B : Nat) (x : I4) (W : World) : Prop where
  old : Below w.heap.size w W
  pg : Blk W w.heap.size 53 #[.int .i64 prio, .slice A n cap]
  ins : Blk W B 59 #[.int .i64 x.op, .int .i64 x.a, .int .i64 x.b, .int .i32 x.n]
theorem RdC.cells {w : World} {prio : Int} {A : Option Addr} {n cap B : Nat} {x : I4} {W : World} (h : RdC w prio A n cap B x W) : W.cell? ⟨w.heap.size, 1, none⟩ = some (.slice A n cap) ∧ W.cell? ⟨B, 0, none⟩ = some (.int .i64 x.op) ∧ W.cell? ⟨B, 1, none⟩ = some (.int .i64 x.a) ∧ W.cell? ⟨B, 2, none⟩ = some (.int .i64 x.b) ∧ W.cell? ⟨B, 3, none⟩ = some (.int .i32 x.n) :=
  ⟨h.pg.cell 1, h.ins.cell 0, h.ins.cell 1, h.ins.cell 2, h.ins.cell 3⟩
set_option maxRecDepth 100000 in
set_option maxHeartbeats 16000000 in
theorem refCheck_any (prio : Int) (A : Option Addr) (l : List I4) (cap : Nat) (w : World) (hI : InsIn w A l) :
    Calls Tryd.prog 33 #[.agg #[.int .i64 prio, .slice A l.length cap]] w (CheckP prio l w) := by
  have HB := Lib.hid ((Below.refl w.heap.size w).alloc (Nat.le_refl _) (.cells #[.int .i64 prio, .slice A l.length cap] 53))
  by_cases hp : prio < 0 ∨ 3 < prio
  · have hE := Lib.hid (progE_size (l := l) hp)
    rcases hp with hp | hp
    · clear hI
      go_enter Tryd.func33, Tryd.ntmps33
      go_wp2
      go_ret2
      exact CheckP.mk hE.out rfl HB.out
    · have h0 : decide (prio < 0) = false := by simp; omega
      clear hI
      go_enter Tryd.func33, Tryd.ntmps33
      go_wp2
      go_ret2
      exact CheckP.mk hE.out rfl HB.out
  · have p0 : decide (prio < 0) = false := by simp; omega
    have p1 : decide (3 < prio) = false := by simp; omega
    have HPR := Lib.hid hp
    obtain ⟨n, hn⟩ : ∃ n, l.length = n := ⟨_, rfl⟩
    have HN := Lib.hid hn
    rw [hn]
    rw [hn] at HB
    by_cases hl : n = 0 ∨ 64 < n
    · have hE := Lib.hid (progE_len (l := l) hp (by rw [hn]; exact hl))
      rcases hl with hl | hl
      · have l0 : decide ((n : Int) < 1) = true := by simp; omega
        have l00 : (n : Int) < 1 := by omega
        clear hI hn hl hp
        go_enter Tryd.func33, Tryd.ntmps33
        go_wp2
        go_ret2
        exact CheckP.mk hE.out rfl HB.out
      · have l0 : ¬ (n : Int) < 1 := by omega
        have l1 : (64 : Int) < (n : Int) := by omega
        clear hI hn hl hp
        go_enter Tryd.func33, Tryd.ntmps33
        go_wp2
        go_ret2
        exact CheckP.mk hE.out rfl HB.out
    · have l0 : ¬ (n : Int) < 1 := by omega
      have l1 : ¬ (64 : Int) < (n : Int) := by omega
      have HL := Lib.hid hl
      have n64 : n ≤ 64 := by omega
      have n1 : 1 ≤ n := by omega
      have HI := Lib.hid hI
      have hblk := Blk.new w 53 #[.int .i64 prio, .slice A n cap]
      have HBL := Lib.hid hblk
      clear hI hn hl hp hblk
      go_enter Tryd.func33, Tryd.ntmps33
      go_wp2_with fail
      go_loopw [30] (fun i wr => ∃ k : Nat, k ≤ n ∧ i = .int .i64 k ∧ (codeE n (l.take k) 0).1 = 0 ∧ Below w.heap.size w wr ∧ Blk wr w.heap.size 53 #[.int .i64 prio, .slice A n cap]) (fun i _ => n - (intOf i).toNat)
      case atStart => exact ⟨0, Nat.zero_le _, rfl, rfl, HB.out, HBL.out⟩
      case round =>
        obtain ⟨k, hk, rfl, hc, hbel, hbk⟩ := hrel
        have HC := Lib.hid hc; have HBE := Lib.hid hbel; have HBK := Lib.hid hbk
        have x1 := hbk.cell 1
        have hlt := hbk.lt
        simp only [List.getElem?_toArray, List.getElem?_cons_zero, List.getElem?_cons_succ] at x1
        clear hc hbel hbk HB HBL
        by_cases hkn : k < n
        · obtain ⟨x, hx⟩ : ∃ x, l[k]? = some x := ⟨_, List.getElem?_eq_getElem (by rw [HN.out]; exact hkn)⟩
          obtain ⟨ft, bb, off, rfl, hbb, c0, c1, c2, c3⟩ := (HI.out.below HBE.out) k x hx
          obtain ⟨op, a, b, nn⟩ := x
          dsimp only at c0 c1 c2 c3
          have k0 : (0 : Int) ≤ (k : Int) := by omega
          have k1 : (k : Int) < (n : Int) := by omega
          have HX := Lib.hid hx
          have hft := ft.n
          dsimp only at hft
          have hno : Hid (∀ {E : Int}, insE ⟨op, a, b, nn⟩ n = E → E ≠ 0 → progE prio l = (E, k)) := fun {E} he hne => by
            refine progE_code HPR.out (by rw [HN.out]; exact HL.out) ?_ hne
            have := codeE_hit HC.out HX.out (by rw [he]; exact hne)
            rw [he] at this
            rw [HN.out]; exact this
          have hyes : Hid (insE ⟨op, a, b, nn⟩ n = 0 → (codeE n (l.take (k + 1)) 0).1 = 0) := fun he => codeE_on HC.out HX.out he
          have HSH : Hid (∀ W W', W = wr.alloc (.cells #[.int .i64 op, .int .i64 a, .int .i64 b, .int .i32 nn] 59) → Below W.heap.size W W' → RdC w prio (some ⟨bb, off, none⟩) n cap wr.heap.size ⟨op, a, b, nn⟩ W') := fun W W' hW h => by
            subst hW
            refine ⟨(HBE.out.alloc (by omega) _).trans (h.mono (by rw [World.size_alloc]; omega)), (HBK.out.alloc _).below h (by rw [World.size_alloc]; omega), (Blk.new _ _ _).below h (by rw [World.size_alloc]; omega)⟩
          clear hx ft
          by_cases ho : op < 1 ∨ 14 < op
          · have hE : progE prio l = (30, k) := hno.out (if_pos ho) (by decide)
            have HE := Lib.hid hE; clear hE
            rcases ho with ho | ho
            · go_wp2_with fail
              refine (shape_any op _).mono ?_
              rintro e w5 ⟨rfl, h5⟩
              have HR := Lib.hid (HSH.out _ _ rfl h5)
              obtain ⟨y9, y0, y1, y2, y3⟩ := HR.out.cells
              dsimp only at y0 y1 y2 y3
              clear h5 HSH c0 c1 c2 c3 x1
              go_wp2_with fail
              go_ret2
              exact CheckP.mk HE.out rfl HR.out.old

            · have ho' : ¬ op < 1 := by omega
              go_wp2_with fail
              refine (shape_any op _).mono ?_
              rintro e w5 ⟨rfl, h5⟩
              have HR := Lib.hid (HSH.out _ _ rfl h5)
              obtain ⟨y9, y0, y1, y2, y3⟩ := HR.out.cells
              dsimp only at y0 y1 y2 y3
              clear h5 HSH c0 c1 c2 c3 x1
              go_wp2_with fail
              go_ret2
              exact CheckP.mk HE.out rfl HR.out.old

          · have o1 : ¬ op < 1 := by omega
            have o2 : ¬ 14 < op := by omega
            obtain ⟨ha, hb, hn2⟩ := has_shape op ho
            have HA := Lib.hid ha; have HB := Lib.hid hb; have HN2 := Lib.hid hn2
            have RA0 := fun W => reg_any a (hasA op) W; have RB0 := fun W => reg_any b (hasB op) W
            clear ha hb hn2
            have HO : Hid (1 ≤ op ∧ op ≤ 14) := (show 1 ≤ op ∧ op ≤ 14 by omega)
            go_wp2_with fail
            refine (shape_any op _).mono ?_
            rintro e w5 ⟨rfl, h5⟩
            have HR := Lib.hid (HSH.out _ _ rfl h5)
            obtain ⟨y9, y0, y1, y2, y3⟩ := HR.out.cells
            dsimp only at y0 y1 y2 y3
            clear h5 HSH c0 c1 c2 c3 x1
            clear ho
            obtain ⟨S, hS⟩ : ∃ S, shapeS op = S := ⟨_, rfl⟩
            rw [hS] at HA HB HN2 ⊢
            clear hS
            obtain ⟨bA, hbA⟩ : ∃ x, hasA op = x := ⟨_, rfl⟩
            obtain ⟨bB, hbB⟩ : ∃ x, hasB op = x := ⟨_, rfl⟩
            rw [hbA] at HA RA0
            rw [hbB] at HB RB0
            have HbA := Lib.hid hbA; have HbB := Lib.hid hbB; clear hbA hbB
            go_wp2_with fail
            cases hA : regOk a bA with
            | false =>
              rw [hA] at RA0; have RA := Lib.hid RA0; have RB := Lib.hid RB0; have HrA := Lib.hid hA; clear RA0 RB0 hA
              go_quiet (first
                | (go_at_call 49; first | with_reducible exact Calls.quiet_of_same (flipW HA.out _) | with_reducible exact Calls.quiet_of_same (flipW HB.out _))
                | (go_at_call 48; first | with_reducible exact Calls.quiet_of_same (flipW RA.out _) | with_reducible exact Calls.quiet_of_same (flipW RB.out _)))
              go_wp2_with fail
              go_ret2
              exact CheckP.mk (hno.out (E := 31) (insE_a HO.out (by rw [HbA.out]; exact HrA.out)) (by decide)) rfl ((HR.out.old.drewN_ _))

            | true =>
              rw [hA] at RA0; have RA := Lib.hid RA0; have HrA := Lib.hid hA; clear RA0 hA
              cases hB : regOk b bB with
              | false =>
                rw [hB] at RB0; have RB := Lib.hid RB0; have HrB := Lib.hid hB; clear RB0 hB
                go_quiet (first
                  | (go_at_call 49; first | with_reducible exact Calls.quiet_of_same (flipW HA.out _) | with_reducible exact Calls.quiet_of_same (flipW HB.out _))
                  | (go_at_call 48; first | with_reducible exact Calls.quiet_of_same (flipW RA.out _) | with_reducible exact Calls.quiet_of_same (flipW RB.out _)))
                go_wp2_with fail
                go_ret2
                exact CheckP.mk (hno.out (E := 31) (insE_b HO.out (by rw [HbB.out]; exact HrB.out)) (by decide)) rfl ((HR.out.old.drewN_ _))

              | true =>
                rw [hB] at RB0; have RB := Lib.hid RB0; have HrB := Lib.hid hB; clear RB0 hB
                go_quiet (first
                  | (go_at_call 49; first | with_reducible exact Calls.quiet_of_same (flipW HA.out _) | with_reducible exact Calls.quiet_of_same (flipW HB.out _))
                  | (go_at_call 48; first | with_reducible exact Calls.quiet_of_same (flipW RA.out _) | with_reducible exact Calls.quiet_of_same (flipW RB.out _)))
                have hins : insE ⟨op, a, b, nn⟩ n = numE op nn n := insE_n HO.out (by rw [HbA.out]; exact HrA.out) (by rw [HbB.out]; exact HrB.out)
                rw [hins] at hyes
                replace hno : Hid (∀ {E : Int}, numE op nn n = E → E ≠ 0 → progE prio l = (E, k)) := fun {E} he hne => hno.out (hins.trans he) hne
                clear hins HA HB RA RB HrA HrB HbA HbB o1 o2
                have qn : IntKind.i64.wrap nn = nn := IntWalk.i64_in _ (by omega)
                by_cases hj : op = 4 ∨ op = 5
                · rcases hj with rfl | rfl
                  · clear HO
                    by_cases h0 : nn < 0
                    · go_wp2_with fail
                      go_ret2
                      exact CheckP.mk (hno.out (E := 32) (by simp [numE]; omega) (by decide)) rfl ((HR.out.old.drewN_ _))
                    · by_cases h1 : (n : Int) ≤ nn
                      · go_wp2_with fail
                        go_ret2
                        exact CheckP.mk (hno.out (E := 32) (by simp [numE]; omega) (by decide)) rfl ((HR.out.old.drewN_ _))
                      · have h2 : ¬ nn ≥ (n : Int) := by omega
                        rw [show hasN 4 = true from rfl] at HN2
                        go_wp2_with (go_at_call 49; (with_reducible refine (HN2.out _).mono ?_); rintro e wq ⟨rfl, rfl⟩)
                        go_roundw
                        case rel => exact ⟨k + 1, by omega, by go_num, hyes.out (by simp [numE]; omega), (HR.out.old.drewN_ _), HR.out.pg⟩
                        case measure => simp [intOf]; omega
                  · clear HO
                    by_cases h0 : nn < 0
                    · go_wp2_with fail
                      go_ret2
                      exact CheckP.mk (hno.out (E := 32) (by simp [numE]; omega) (by decide)) rfl ((HR.out.old.drewN_ _))
                    · by_cases h1 : (n : Int) ≤ nn
                      · go_wp2_with fail
                        go_ret2
                        exact CheckP.mk (hno.out (E := 32) (by simp [numE]; omega) (by decide)) rfl ((HR.out.old.drewN_ _))
                      · have h2 : ¬ nn ≥ (n : Int) := by omega
                        rw [show hasN 5 = true from rfl] at HN2
                        go_wp2_with (go_at_call 49; (with_reducible refine (HN2.out _).mono ?_); rintro e wq ⟨rfl, rfl⟩)
                        go_roundw
                        case rel => exact ⟨k + 1, by omega, by go_num, hyes.out (by simp [numE]; omega), (HR.out.old.drewN_ _), HR.out.pg⟩
                        case measure => simp [intOf]; omega
                · have q4 : (op == 4) = false := by simp; omega
                  have q5 : (op == 5) = false := by simp; omega
                  by_cases hs : op = 7 ∨ op = 9 ∨ op = 10 ∨ op = 12
                  · rcases hs with rfl | rfl | rfl | rfl
                    · clear HO
                      by_cases h0 : nn < 0
                      · go_wp2_with fail
                        go_ret2
                        exact CheckP.mk (hno.out (E := 26) (by simp [numE]; omega) (by decide)) rfl ((HR.out.old.drewN_ _))
                      · by_cases h1 : 15 < nn
                        · go_wp2_with fail
                          go_ret2
                          exact CheckP.mk (hno.out (E := 26) (by simp [numE]; omega) (by decide)) rfl ((HR.out.old.drewN_ _))
                        · rw [show hasN 7 = true from rfl] at HN2
                          go_wp2_with (go_at_call 49; (with_reducible refine (HN2.out _).mono ?_); rintro e wq ⟨rfl, rfl⟩)
                          go_roundw
                          case rel => exact ⟨k + 1, by omega, by go_num, hyes.out (by simp [numE]; omega), (HR.out.old.drewN_ _), HR.out.pg⟩
                          case measure => simp [intOf]; omega
                    · clear HO
                      by_cases h0 : nn < 0
                      · go_wp2_with fail
                        go_ret2
                        exact CheckP.mk (hno.out (E := 26) (by simp [numE]; omega) (by decide)) rfl ((HR.out.old.drewN_ _))
                      · by_cases h1 : 15 < nn
                        · go_wp2_with fail
                          go_ret2
                          exact CheckP.mk (hno.out (E := 26) (by simp [numE]; omega) (by decide)) rfl ((HR.out.old.drewN_ _))
                        · rw [show hasN 9 = true from rfl] at HN2
                          go_wp2_with (go_at_call 49; (with_reducible refine (HN2.out _).mono ?_); rintro e wq ⟨rfl, rfl⟩)
                          go_roundw
                          case rel => exact ⟨k + 1, by omega, by go_num, hyes.out (by simp [numE]; omega), (HR.out.old.drewN_ _), HR.out.pg⟩
                          case measure => simp [intOf]; omega
                    · clear HO
                      by_cases h0 : nn < 0
                      · go_wp2_with fail
                        go_ret2
                        exact CheckP.mk (hno.out (E := 26) (by simp [numE]; omega) (by decide)) rfl ((HR.out.old.drewN_ _))
                      · by_cases h1 : 15 < nn
                        · go_wp2_with fail
                          go_ret2
                          exact CheckP.mk (hno.out (E := 26) (by simp [numE]; omega) (by decide)) rfl ((HR.out.old.drewN_ _))
                        · rw [show hasN 10 = true from rfl] at HN2
                          go_wp2_with (go_at_call 49; (with_reducible refine (HN2.out _).mono ?_); rintro e wq ⟨rfl, rfl⟩)
                          go_roundw
                          case rel => exact ⟨k + 1, by omega, by go_num, hyes.out (by simp [numE]; omega), (HR.out.old.drewN_ _), HR.out.pg⟩
                          case measure => simp [intOf]; omega
                    · clear HO
                      by_cases h0 : nn < 0
                      · go_wp2_with fail
                        go_ret2
                        exact CheckP.mk (hno.out (E := 26) (by simp [numE]; omega) (by decide)) rfl ((HR.out.old.drewN_ _))
                      · by_cases h1 : 15 < nn
                        · go_wp2_with fail
                          go_ret2
                          exact CheckP.mk (hno.out (E := 26) (by simp [numE]; omega) (by decide)) rfl ((HR.out.old.drewN_ _))
                        · rw [show hasN 12 = true from rfl] at HN2
                          go_wp2_with (go_at_call 49; (with_reducible refine (HN2.out _).mono ?_); rintro e wq ⟨rfl, rfl⟩)
                          go_roundw
                          case rel => exact ⟨k + 1, by omega, by go_num, hyes.out (by simp [numE]; omega), (HR.out.old.drewN_ _), HR.out.pg⟩
                          case measure => simp [intOf]; omega
                  · have q7 : (op == 7) = false := by simp; omega
                    have q9 : (op == 9) = false := by simp; omega
                    have q10 : (op == 10) = false := by simp; omega
                    have q12 : (op == 12) = false := by simp; omega
                    by_cases h1 : op = 1
                    · subst h1
                      rw [show hasN 1 = true from rfl] at HN2
                      go_wp2_with (go_at_call 49; (with_reducible refine (HN2.out _).mono ?_); rintro e wq ⟨rfl, rfl⟩)
                      go_roundw
                      case rel => exact ⟨k + 1, by omega, by go_num, hyes.out (by simp [numE]), (HR.out.old.drewN_ _), HR.out.pg⟩
                      case measure => simp [intOf]; omega
                    · have hn2 : hasN op = false := by have := HO.out; simp [hasN]; omega
                      rw [hn2] at HN2
                      have HC := Lib.hid (show ¬ (op = 1) ∧ ¬ (op = 4 ∨ op = 5) ∧ ¬ (op = 7 ∨ op = 12 ∨ op = 9 ∨ op = 10) by omega)
                      clear hj hs h1 hn2
                      by_cases hz : nn = 0
                      · subst hz
                        go_wp2_with (go_at_call 49; (with_reducible refine (HN2.out _).mono ?_); rintro e wq ⟨rfl, rfl⟩)
                        go_roundw
                        case rel => exact ⟨k + 1, by omega, by go_num, hyes.out (by rw [numE, if_neg HC.out.1, if_neg HC.out.2.1, if_neg HC.out.2.2]; decide), (HR.out.old.drewN_ _), HR.out.pg⟩
                        case measure => simp [intOf]; omega
                      · have tz : (nn != 0) = true := by simp [hz]
                        have HZ := Lib.hid hz; clear hz
                        go_wp2_with (go_at_call 49; (with_reducible refine (HN2.out _).mono ?_); rintro e wq ⟨rfl, rfl⟩)
                        go_ret2
                        exact CheckP.mk (hno.out (E := 26) (by have := HZ.out; rw [numE, if_neg HC.out.1, if_neg HC.out.2.1, if_neg HC.out.2.2, if_pos (by omega)]) (by decide)) rfl ((HR.out.old.drewN_ _))
        · obtain rfl : k = n := by omega
          obtain ⟨x, hx⟩ : ∃ x, l[k - 1]? = some x := ⟨_, List.getElem?_eq_getElem (by rw [HN.out]; omega)⟩
          obtain ⟨ft, bb, off, rfl, hbb, c0, c1, c2, c3⟩ := (HI.out.below HBE.out) (k - 1) x hx
          have hlo : lastOp l = x.op := lastOp_at (by rw [HN.out]; exact hx)
          have hce : (codeE l.length l 0).1 = 0 := by
            have := HC.out
            rw [show l.take k = l by rw [← HN.out]; exact List.take_length] at this
            rw [HN.out]; exact this
          have hPE := progE_last HPR.out (by rw [HN.out]; exact HL.out) hce
          rw [hlo] at hPE
          obtain ⟨m, hm⟩ : ∃ m, k - 1 = m := ⟨_, rfl⟩
          have hkm : (k : Int) - 1 = (m : Int) := by omega
          have m0 : (0 : Int) ≤ (m : Int) := by omega
          have m1 : (m : Int) < (k : Int) := by omega
          have hPE2 : progE prio l = if x.op = 4 ∨ x.op = 14 then (0, 0) else (32, m) := by rw [hPE, HN.out, hm]
          rw [hm] at c0 c1 c2 c3
          have HPE := Lib.hid hPE2
          obtain ⟨op, xa, xb, xn⟩ := x
          dsimp only at c0 c1 c2 c3 HPE
          clear hPE hPE2 hce hlo hx hm ft HC c1 c2 c3
          by_cases h4 : op = 4
          · subst h4
            rw [if_pos (.inl rfl)] at HPE
            go_wp2_with fail
            go_ret2
            exact CheckP.mk HPE.out rfl HBE.out
          · by_cases h14 : op = 14
            · subst h14
              rw [if_pos (.inr rfl)] at HPE
              go_wp2_with fail
              go_ret2
              exact CheckP.mk HPE.out rfl HBE.out
            · rw [if_neg (by omega)] at HPE
              have q4 : (op != 4) = true := by simp [h4]
              have q14 : (op != 14) = true := by simp [h14]
              clear h4 h14
              go_wp2_with fail
              go_quiet (fail)
              go_wp2_with fail
              go_ret2
              exact CheckP.mk HPE.out rfl (HBE.out.drewN_ _)
end Go.Proofs.YtilaalleiiakoaaDoor
