/- CohortBudget's walk (layer 14). -/
import Derived.Test.YtekahmfchpgmfaaD0
namespace Go.Proofs.Ytekahmfchpgmfaa
open Go.RowKit
set_option maxRecDepth 100000

set_option maxHeartbeats 16000000 in
theorem budget14_any (A : Option Addr) (len cap : Nat) (K : Nat → Nat) (I J L : Nat → Int) (w : World) (hcap : len ≤ cap) (hI : OpsC w A len K I J L) :
    Calls Try.prog 5 #[.slice A len cap] w fun e w' => e = .returned (.bool true) ∧ Below w.heap.size w w' := by
  have HLV := Lib.hid (fun W => lives14_any W)
  have P := Lib.hid (new1 w)
  have hmm := @run_makeMap Try.prog
  go_enter Try.func5, Try.ntmps5
  go_upto_region 1 with fail
  go_cut [0] (fun t wx => ∃ N : Nat, N ≤ 80 ∧ N ≤ len ∧ t = .slice A N cap ∧ wx = w)
  case first =>
    clear P HLV hI hmm
    by_cases h60 : len ≤ 80
    · have t0 : ¬ (80 : Int) < len := by omega
      have t1 : (0 : Int) ≤ len := by omega
      have t2 : (len : Int) ≤ cap := by omega
      go_wp2_with fail
      go_meet
      exact ⟨len, h60, Nat.le_refl _, by first | rfl | (rw [show (min (len : Int) 80).toNat = len by omega]), rfl⟩
    · have t0 : (80 : Int) < len := by omega
      have t2 : (80 : Int) ≤ cap := by omega
      have t3 : 80 ≤ cap := by omega
      go_wp2_with fail
      go_meet
      exact ⟨80, Nat.le_refl _, by omega, by first | rfl | (rw [show (min (len : Int) 80).toNat = 80 by omega]), rfl⟩
  case rest =>
    obtain ⟨N, hN1, hN2, rfl, hwx⟩ := hcut
    obtain rfl := hwx.symm
    have HI : Hid (OpsC w A N K I J L) := hI.less hN2
    clear hI hcap hN2
    go_wp2_with fail
    refine P.out.mono ?_
    rintro e w1 ⟨pb, lb, rfl, h1, b1⟩
    dsimp only
    have hal : Below w1.heap.size w1 (w1.alloc (.map #[] 0)) := (Below.refl _ _).alloc (Nat.le_refl _) _
    have HO := Lib.hid (One.apart h1 (But.of_below hal) (Nat.le_refl _))
    have HB := Lib.hid (b1.trans (hal.mono b1.size))
    have HS := Lib.hid (sock_made w1)
    have HMB : Hid (w.heap.size ≤ w1.heap.size) := b1.size
    clear h1 b1 hal P
    go_upto_region 5 with fail
    clear hmm
    generalize w1.alloc (.map #[] 0) = W1 at *
    generalize w1.heap.size = mb at *
    go_wp2_with fail
    go_loopw [5, 30] (fun sv iv wr => ∃ (k : Nat) (c : Coh) (f : Int → Int) (st : Int), sv = .int .i64 st ∧ iv = .int .i64 k ∧ k ≤ N ∧ OneP (fun x => w.heap.size ≤ x ∧ x ≠ mb) pb lb c k wr ∧ SockM mb k f wr ∧ BInv c f st ∧ Below w.heap.size w wr) (fun _ iv _ => N - (intOf iv).toNat)
    case atStart => exact ⟨0, zCoh, _, 0, rfl, rfl, Nat.zero_le _, HO.out, HS.out, binv_z _, HB.out⟩
    case round =>
      clear HO HB HS
      obtain ⟨k, c, f, st, rfl, rfl, hk, ho, hs, hv, hb⟩ := hrel
      have HO := Lib.hid ho; have HS := Lib.hid hs; have HV := Lib.hid hv; have HB := Lib.hid hb
      clear ho hs hv
      by_cases hlt : k < N
      · obtain ⟨b, off, rfl, -, c0, c1, c2, c3⟩ := (HI.out.below hb) k hlt
        clear hb
        have k0 : (0 : Int) ≤ (k : Int) := by omega
        have k1 : (k : Int) < (N : Int) := by omega
        have HLT := Lib.hid hlt
        generalize K k = kn at c0
        generalize I k = iv0 at c1
        generalize J k = a at c2
        generalize L k = d at c3
        have hal : Below wr.heap.size wr (wr.alloc (.cells #[.int .u64 kn, .int .i64 iv0, .int .i64 a, .int .i64 d] 45)) := (Below.refl _ _).alloc (Nat.le_refl _) _
        have HO1 := Lib.hid (HO.out.nob (But.of_below hal))
        have HS1 := Lib.hid (HS.out.but (X := Nob) (But.of_below hal) id)
        have HB1 := Lib.hid (HB.out.trans (hal.mono HB.out.size))
        have hbx := Blk.new wr 45 #[.int .u64 kn, .int .i64 iv0, .int .i64 a, .int .i64 d]
        have d2 := hbx.cell 2
        have d3 := hbx.cell 3
        simp only [List.getElem?_toArray, List.getElem?_cons_zero, List.getElem?_cons_succ] at d2 d3
        clear hal hbx
        by_cases hp : kn % 2 = 0
        · have hm : (kn : Int).tmod 2 = 0 := by rw [Int.tmod_eq_emod_of_nonneg (by omega)]; omega
          clear hp
          go_upto_region 9 with fail
          clear c0 c1 c2 c3 hm
          generalize wr.alloc (.cells #[.int .u64 kn, .int .i64 iv0, .int .i64 a, .int .i64 d] 45) = W2 at *
          generalize wr.heap.size = xb at *
          go_quiet (fail)
          have hdn : But Nob W2 (W2.drewN nq) := (But.refl _ _).drewN nq
          have HO3 := Lib.hid (HO1.out.nob hdn)
          have HS3 := Lib.hid (HS1.out.but hdn id)
          have HB3 := Lib.hid (HB1.out.trans (hdn.below (B := w.heap.size) HB1.out.size fun _ _ q => q.elim))
          clear hdn d2 d3 HO1 HS1 HB1
          generalize W2.drewN nq = W3 at *
          have ht := Lib.hid (clampT a)
          have hs := Lib.hid (clampT d)
          generalize max 0 (min a 1000) = t at *
          generalize max 0 (min d 1000) = s at *
          by_cases he : (takeE c t s).2 = 0
          · have hE : takeE c t s = ((takeE c t s).1, 0) := Prod.ext rfl he
            have HV4 := Lib.hid (take_binv HV.out ht.out.1 ht.out.2 he)
            have hT : takeT c t s = takeC c t s := by unfold takeT; rw [if_pos he]
            generalize (takeE c t s).1 = g at *
            have HT := Lib.hid (takeP t s hE hT HO3.out (by have := HLT.out; omega) (fun q hq => ⟨Nat.le_trans HB3.out.size hq, fun e => by have := HS3.out.lt; omega⟩))
            clear he hE hT
            generalize takeC c t s = c4 at *
            go_wp2_with fail
            refine HT.out.mono ?_
            rintro e w4 ⟨rfl, h4, b4⟩
            dsimp only
            have hs4 := HS3.out.but b4 (fun q => q.2 rfl)
            have HB4 := Lib.hid (HB3.out.trans (b4.below (B := w.heap.size) HB3.out.size fun _ _ q => q.1))
            obtain ⟨w5, hr5, h5, g5⟩ := hs4.upd (by have := HLT.out; unfold maxLen; omega) (wf_small ht.out.1 ht.out.2) (wf_small hs.out.1 hs.out.2)
            have hb5 : But (fun x => x = mb) w4 w5 := (But.refl _ _).grown g5 fun q hq => by cases hq; exact .inl rfl
            have HO5 := Lib.hid (OneP.far h4 hb5 (fun q => q.2 rfl))
            have HS5 := Lib.hid h5
            have HB5 := Lib.hid (HB4.out.trans (hb5.below (B := w.heap.size) HB4.out.size fun _ _ q => by rw [q]; exact HMB.out))
            clear h4 b4 hs4 h5 g5 hb5 HT HO3 HS3
            cases g with
            | true =>
              go_wp2_with fail
              go_roundw
              case rel => exact ⟨k + 1, c4, _, 0, rfl, by go_num, by have := HLT.out; omega, HO5.out, HS5.out, HV4.out, HB5.out⟩
              case measure => have := HLT.out; simp [intOf]; omega
            | false =>
              go_wp2_with fail
              go_roundw
              case rel => exact ⟨k + 1, c4, _, st, rfl, by go_num, by have := HLT.out; omega, HO5.out, HS5.out, HV4.out, HB5.out⟩
              case measure => have := HLT.out; simp [intOf]; omega
          · obtain ⟨hE, hT⟩ := takeE_bad he
            generalize (takeE c t s).2 = E at *
            have tE : (E == 0) = false := by simpa using he
            have HT := Lib.hid (takeP t s hE hT HO3.out (by have := HLT.out; omega) (fun q hq => ⟨Nat.le_trans HB3.out.size hq, fun e => by have := HS3.out.lt; omega⟩))
            clear he hE hT
            go_wp2_with fail
            refine HT.out.mono ?_
            rintro e w4 ⟨rfl, h4, b4⟩
            dsimp only
            have HO4 := Lib.hid h4
            have HS4 := Lib.hid (HS3.out.but b4 (fun q => q.2 rfl)).up
            have HB4 := Lib.hid (HB3.out.trans (b4.below (B := w.heap.size) HB3.out.size fun _ _ q => q.1))
            clear h4 b4 HT
            go_wp2_with fail
            go_roundw
            case rel => exact ⟨k + 1, c, f, st, rfl, by go_num, by have := HLT.out; omega, HO4.out, HS4.out, HV.out, HB4.out⟩
            case measure => have := HLT.out; simp [intOf]; omega
        · have hm : (kn : Int).tmod 2 = 1 := by rw [Int.tmod_eq_emod_of_nonneg (by omega)]; omega
          clear hp
          go_upto_region 15 with fail
          clear c0 c1 c2 c3 hm d2 d3
          generalize wr.alloc (.cells #[.int .u64 kn, .int .i64 iv0, .int .i64 a, .int .i64 d] 45) = W2 at *
          generalize wr.heap.size = xb at *
          have HW := Lib.hid (ownerP HO1.out)
          by_cases hown : c.own = -1
          · rw [if_pos hown, show (!(c.own == -1)) = false by simpa using hown] at HW
            clear hown
            go_wp2_with fail
            refine HW.out.mono ?_
            rintro e w4 ⟨rfl, rfl⟩
            dsimp only
            go_wp2_with fail
            go_roundw
            case rel => exact ⟨k + 1, c, f, st, rfl, by go_num, by have := HLT.out; omega, HO1.out.up, HS1.out.up, HV.out, HB1.out⟩
            case measure => have := HLT.out; simp [intOf]; omega
          · rw [if_neg hown, show (!(c.own == -1)) = true by simpa using hown] at HW
            have HISO : Hid (isOfC c c.own = true) := by
              show isOfC c c.own = true
              unfold isOfC
              rw [show (c.own == -1) = false by simpa using hown]; simp
            have HK := Lib.hid (socketP HO1.out)
            have HWT := Lib.hid (waitP HO1.out (by have := HLT.out; omega))
            obtain ⟨ow, how⟩ : ∃ o, c.own = o := ⟨_, rfl⟩
            rw [how] at HW HISO
            obtain ⟨so, hso⟩ : ∃ o, c.soc = o := ⟨_, rfl⟩
            rw [hso] at HK
            have HSO := Lib.hid hso
            clear hown how hso
            go_wp2_with fail
            refine HW.out.mono ?_
            rintro e w4 ⟨rfl, rfl⟩
            dsimp only
            clear HW
            go_wp2_with fail
            refine HK.out.mono ?_
            rintro e w4 ⟨rfl, rfl⟩
            dsimp only
            clear HK
            go_wp2_with fail
            refine HWT.out.mono ?_
            rintro e w5 ⟨v, rfl, hv5, b5⟩
            dsimp only
            obtain ⟨A5, cap5, rfl, hn5⟩ := hv5.nums
            have HN5 := Lib.hid hn5
            have HO5 := Lib.hid (HO1.out.nob (But.of_below b5))
            have HS5 := Lib.hid (HS1.out.but (X := Nob) (But.of_below b5) id)
            have HB5 := Lib.hid (HB1.out.trans (b5.mono HB1.out.size))
            obtain ⟨n5, hn⟩ : ∃ n, (allR c.rnd).length = n := ⟨_, rfl⟩
            have HNN := Lib.hid hn
            have hn9 : n5 ≤ 810000 := by
              have hb9 := HO1.out.b9 (by have := HLT.out; omega)
              have h1 := allR_len (L := c.rnd) (m := 900) hb9.row
              have := Nat.mul_le_mul_left 900 hb9.rnd
              omega
            rw [hn]
            clear hv5 hn5 b5 hn HWT HO1 HS1 HB1
            go_wp2_with fail
            go_loopw [15, 71] (fun ov iv wr2 => ∃ j : Nat, iv = .int .i64 j ∧ j ≤ n5 ∧ ov = .bool (othB f so ((allR c.rnd).take j)) ∧ wr2 = w5) (fun _ iv _ => n5 - (intOf iv).toNat)
            case atStart => exact ⟨0, rfl, Nat.zero_le _, rfl, rfl⟩
            case round =>
              obtain ⟨j, rfl, hj, rfl, rfl⟩ := hrel
              by_cases hjl : j < n5
              · obtain ⟨x, hx⟩ : ∃ x, (allR c.rnd)[j]? = some x := ⟨_, List.getElem?_eq_getElem (by rw [HNN.out]; exact hjl)⟩
                obtain ⟨g5, rfl, e5⟩ := HN5.out j x hx
                have hwx : (Lit.int .i64 x).wf = true := by
                  obtain ⟨r, hr, hxr⟩ := allR_in (List.mem_of_getElem? hx)
                  exact wf_small (HV.out.ok.tsk r hr x hxr) (HV.out.top r hr x hxr)
                have hlk := HS5.out.look hwx
                have HSU : Hid (othB f so ((allR c.rnd).take (j + 1)) = (othB f so ((allR c.rnd).take j) || f x != so)) := othB_succ hx
                have HJL := Lib.hid hjl
                have j0 : (0 : Int) ≤ (j : Int) := by omega
                have j1 : (j : Int) < (n5 : Int) := by omega
                clear hx hwx
                generalize othB f so ((allR c.rnd).take j) = fl at *
                generalize f x = fx at *
                cases fl with
                | true =>
                  go_wp2_with fail
                  go_roundw
                  case rel => exact ⟨j + 1, by go_num, by have := HJL.out; omega, by rw [HSU.out]; rfl, trivial⟩
                  case measure => have := HJL.out; simp [intOf]; omega
                | false =>
                  obtain ⟨bq, hbq⟩ : ∃ bq, (fx != so) = bq := ⟨_, rfl⟩
                  rw [hbq] at HSU
                  go_wp2_with fail
                  go_roundw
                  case rel => exact ⟨j + 1, by go_num, by have := HJL.out; omega, by rw [HSU.out]; first | rfl | simp [hbq], trivial⟩
                  case measure => have := HJL.out; simp [intOf]; omega
              · have hjn : j = n5 := by omega
                have tj : ¬ (j : Int) < (n5 : Int) := by omega
                have HOT : Hid (othB f so ((allR c.rnd).take j) = true → ∃ y ∈ allR c.rnd, f y ≠ so) := fun q => by
                  rw [List.take_of_length_le (by rw [HNN.out]; omega)] at q
                  exact othB_all q
                generalize othB f so ((allR c.rnd).take j) = ot at *
                clear hjn
                have hBB : Hid (∀ q, wr.heap.size ≤ q → w.heap.size ≤ q ∧ q ≠ mb) := fun q hq => ⟨Nat.le_trans HB5.out.size hq, fun e => by have := HS5.out.lt; omega⟩
                cases hg : goesC c with
                | false =>
                  have hz := give_none hg
                  have HG := Lib.hid (giveP1 (o := true) (g := false) (ow := 0) (c' := zCoh) ow HISO.out hg (by rw [if_neg (by rintro ⟨_, h⟩; cases h)]) (by rw [if_pos rfl]; exact hz) HO5.out (by have := HLT.out; omega) hBB.out)
                  rw [if_pos rfl, Bool.and_false] at HG
                  clear hg hz
                  go_wp2_with fail
                  refine HG.out.mono ?_
                  rintro e w6 ⟨rfl, h6, b6⟩
                  dsimp only
                  have HO6 := Lib.hid h6
                  have HS6 := Lib.hid (HS5.out.but b6 (fun q => q.2 rfl)).up
                  have HB6 := Lib.hid (HB5.out.trans (b6.below (B := w.heap.size) HB5.out.size fun _ _ q => q.1))
                  clear h6 b6 HG HO5 HS5
                  go_upto_region 25 with fail
                  go_quiet (fail)
                  have hdn : But Nob w6 (w6.drewN nq) := (But.refl _ _).drewN nq
                  have HO7 := Lib.hid (HO6.out.nob hdn)
                  have HS7 := Lib.hid (HS6.out.but hdn id)
                  have HB7 := Lib.hid (HB6.out.trans (hdn.below (B := w.heap.size) HB6.out.size fun _ _ q => q.elim))
                  clear hdn
                  generalize w6.drewN nq = w7 at *
                  go_wp2_with fail
                  go_roundw
                  case rel => exact ⟨k + 1, zCoh, f, 0, rfl, by go_num, by have := HLT.out; omega, HO7.out, HS7.out, binv_z f, HB7.out⟩
                  case measure => have := HLT.out; simp [intOf]; omega
                | true =>
                  obtain ⟨q1, q2, q3, q4⟩ := give_binv HV.out hg
                  obtain ⟨nx, hnx⟩ : ∃ o, (giveC c).own = o := ⟨_, rfl⟩
                  obtain ⟨sn, hsn⟩ : ∃ o, (giveC c).soc = o := ⟨_, rfl⟩
                  have HG := Lib.hid (giveP1 (o := true) (g := true) (ow := nx) (c' := giveC c) ow HISO.out hg (by rw [if_pos ⟨rfl, rfl⟩]; exact hnx) (if_pos rfl) HO5.out (by have := HLT.out; omega) hBB.out)
                  rw [if_pos rfl, Bool.and_self] at HG
                  rw [hnx, hsn] at q1
                  rw [hnx] at q2
                  rw [hsn, HSO.out] at q3 q4
                  have hwn := wf_small q2.1 q2.2
                  have H3 := Lib.hid q3; have H4 := Lib.hid q4
                  have HSN := Lib.hid hsn
                  have HST : Hid (0 ≤ st ∧ st ≤ 1000) := by
                    obtain ⟨-, hb⟩ := HO5.out
                    have h1 := hb.pas
                    have h2 := HV.out.ok.pas
                    have h3 := HV.out.st
                    have := HLT.out
                    show 0 ≤ st ∧ st ≤ 1000
                    omega
                  clear hg q2 q3 q4 hnx hsn
                  go_wp2_with fail
                  refine HG.out.mono ?_
                  rintro e w6 ⟨rfl, h6, b6⟩
                  dsimp only
                  have HO6 := Lib.hid h6
                  have HS6 := Lib.hid (HS5.out.but b6 (fun q => q.2 rfl)).up
                  have HB6 := Lib.hid (HB5.out.trans (b6.below (B := w.heap.size) HB5.out.size fun _ _ q => q.1))
                  have HK6 : Hid (∀ q, Calls Try.prog 19 #[.pointer (some ⟨pb, 0, none⟩), .int .i64 0] (w6.drewN q) fun e w' => e = .returned (.int .i64 sn) ∧ w' = w6.drewN q) := fun q => by
                    have := socketP (HO6.out.nob ((But.refl Nob w6).drewN q))
                    rw [HSN.out] at this
                    exact this.mono fun _ _ ⟨a, b⟩ => ⟨a, b.symm⟩
                  have hlk6 : ∀ q, (Instr.lookup 48 (.map (some mb)) (.int .i64 nx) false).run Try.prog (w6.drewN q) = .ok (.int .i64 sn) (w6.drewN q) := fun q => by
                    have := (HS6.out.but ((But.refl Nob w6).drewN q) id).look hwn
                    rwa [q1] at this
                  have tsn : (sn != sn) = false := by simp
                  clear h6 b6 HG HO5 HS5 hwn q1
                  go_upto_region 25 with fail
                  go_quiet ((go_at_call 19; exact Calls.quiet_of_same (HK6.out _)))
                  have hlk7 := hlk6 nq
                  have hdn : But Nob w6 (w6.drewN nq) := (But.refl _ _).drewN nq
                  have HO7 := Lib.hid (HO6.out.nob hdn)
                  have HS7 := Lib.hid (HS6.out.but hdn id)
                  have HB7 := Lib.hid (HB6.out.trans (hdn.below (B := w.heap.size) HB6.out.size fun _ _ q => q.elim))
                  clear hdn hlk6 HK6
                  generalize w6.drewN nq = w7 at *
                  have hst0 := HST.out.1
                  have hst1 := HST.out.2
                  by_cases hqs : sn = so
                  · have tq : (sn == so) = true := by simpa using hqs
                    obtain ⟨hv8, h38⟩ := H3.out hqs
                    have HV8 := Lib.hid hv8
                    clear hqs hv8
                    cases ot with
                    | true =>
                      have hle : st + 1 ≤ 3 := h38 (HOT.out rfl)
                      have t3 : ¬ 3 < st + 1 := by omega
                      clear h38
                      go_wp2_with fail
                      go_roundw
                      case rel => exact ⟨k + 1, giveC c, f, st + 1, by go_num, by go_num, by have := HLT.out; omega, HO7.out, HS7.out, HV8.out, HB7.out⟩
                      case measure => have := HLT.out; simp [intOf]; omega
                    | false =>
                      clear h38
                      go_wp2_with fail
                      go_roundw
                      case rel => exact ⟨k + 1, giveC c, f, st + 1, by go_num, by go_num, by have := HLT.out; omega, HO7.out, HS7.out, HV8.out, HB7.out⟩
                      case measure => have := HLT.out; simp [intOf]; omega
                  · have tq : (sn == so) = false := by simpa using hqs
                    have HV8 := Lib.hid (H4.out hqs)
                    clear hqs
                    go_wp2_with fail
                    go_roundw
                    case rel => exact ⟨k + 1, giveC c, f, 0, rfl, by go_num, by have := HLT.out; omega, HO7.out, HS7.out, HV8.out, HB7.out⟩
                    case measure => have := HLT.out; simp [intOf]; omega
      · have t : ¬ (k : Int) < (N : Int) := by omega
        clear hb
        go_wp2_with fail
        refine (HLV.out _).mono ?_
        rintro e w9 ⟨rfl, h9⟩
        dsimp only
        have HB9 := Lib.hid (HB.out.trans (h9.mono HB.out.size))
        clear h9
        go_wp2_with fail
        go_ret
        exact ⟨rfl, HB9.out⟩
end Go.Proofs.Ytekahmfchpgmfaa
