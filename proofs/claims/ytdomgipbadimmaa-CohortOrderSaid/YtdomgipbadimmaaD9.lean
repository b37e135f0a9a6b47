/- CohortOrder's walk (layer 14). -/
import Derived.Test.YtdomgipbadimmaaDc
import Derived.Deep.RegionLaw
namespace Go.Proofs.Ytdomgipbadimmaa
open Go.RowKit
set_option maxRecDepth 100000

set_option maxHeartbeats 16000000 in
theorem order14_any (A : Option Addr) (len cap : Nat) (K : Nat → Nat) (I J L : Nat → Int) (w : World) (hcap : len ≤ cap) (hI : OpsC w A len K I J L) :
    Calls Try.prog 6 #[.slice A len cap] w fun e w' => e = .returned (.bool true) ∧ Below w.heap.size w w' := by
  have HLV := Lib.hid (fun W => lives14_any W)
  have P := Lib.hid (new1 w)
  go_enter Try.func6, Try.ntmps6
  go_upto_region 1 with fail
  go_cut [0] (fun t wx => ∃ N : Nat, N ≤ 80 ∧ N ≤ len ∧ t = .slice A N cap ∧ wx = w)
  case first =>
    clear P HLV hI
    by_cases h60 : len ≤ 80
    · have t0 : ¬ (80 : Int) < len := by omega
      have t1 : (0 : Int) ≤ len := by omega
      have t2 : (len : Int) ≤ cap := by omega
      go_wp2_with fail
      go_meet
      exact ⟨len, h60, Nat.le_refl _, by first | rfl | (rw [show (min (len : Int) 80).toNat = len by omega]), rfl⟩
    · have t0 : (80 : Int) < len := by omega
      have t2 : (80 : Int) ≤ cap := by omega
      have t3 : 80 ≤ cap := by omega
      go_wp2_with fail
      go_meet
      exact ⟨80, Nat.le_refl _, by omega, by first | rfl | (rw [show (min (len : Int) 80).toNat = 80 by omega]), rfl⟩
  case rest =>
    obtain ⟨N, hN1, hN2, rfl, hwx⟩ := hcut
    obtain rfl := hwx.symm
    have HI : Hid (OpsC w A N K I J L) := hI.less hN2
    clear hI hcap hN2
    go_wp2_with fail
    refine P.out.mono ?_
    rintro e w1 ⟨pb, lb, rfl, h1, b1⟩
    dsimp only
    have HM : Hid (OrdM w pb lb 0 zCoh [] (.slice none 0 0) (.slice none 0 0) w1) := ⟨OneP.away h1 (fun q _ hB => ⟨hB, (fun e => by cases e), (fun e => by cases e)⟩), waitR_nil _ _, leftR_nil _ _, (fun g e => by cases e), b1, oinv_z, List.nodup_nil, Nat.le_refl _⟩
    clear h1 b1 P
    go_wp2_with fail
    go_loopw [4, 5, 33] (fun wv lv iv wr => ∃ (k : Nat) (c : Coh) (E : List Ent) (wv' lv' : Value), wv' = wv ∧ lv' = lv ∧ iv = .int .i64 k ∧ k ≤ N ∧ OrdM w pb lb k c E wv' lv' wr ∧ (∀ f ∈ E, f.lft ≤ 3000)) (fun _ _ iv _ => N - (intOf iv).toNat)
    case atStart => exact ⟨0, zCoh, [], _, _, rfl, rfl, rfl, Nat.zero_le _, HM.out, (fun f h => by cases h)⟩
    case round =>
      clear HM
      obtain ⟨k, c, E, wv, lv, rfl, rfl, rfl, hk, hm0, hle0⟩ := hrel
      have HLE := Lib.hid hle0
      clear hle0
      have HM := Lib.hid hm0
      have hb := hm0.low
      clear hm0
      by_cases hlt : k < N
      · obtain ⟨b, off, rfl, -, c0, c1, c2, c3⟩ := (HI.out.below hb) k hlt
        clear hb
        have k0 : (0 : Int) ≤ (k : Int) := by omega
        have k1 : (k : Int) < (N : Int) := by omega
        have HLT := Lib.hid hlt
        generalize K k = kn at c0
        generalize I k = iv0 at c1
        generalize J k = a at c2
        generalize L k = d at c3
        have hal : Below wr.heap.size wr (wr.alloc (.cells #[.int .u64 kn, .int .i64 iv0, .int .i64 a, .int .i64 d] 45)) := (Below.refl _ _).alloc (Nat.le_refl _) _
        have HM1 := Lib.hid (HM.out.on hal)
        have hbx := Blk.new wr 45 #[.int .u64 kn, .int .i64 iv0, .int .i64 a, .int .i64 d]
        have d2 := hbx.cell 2
        have d3 := hbx.cell 3
        simp only [List.getElem?_toArray, List.getElem?_cons_zero, List.getElem?_cons_succ] at d2 d3
        clear hal hbx
        by_cases hp : kn % 2 = 0
        · have hm : (kn : Int).tmod 2 = 0 := by rw [Int.tmod_eq_emod_of_nonneg (by omega)]; omega
          clear hp
          go_upto_region 9 with fail
          clear c0 c1 c2 c3 hm
          generalize wr.alloc (.cells #[.int .u64 kn, .int .i64 iv0, .int .i64 a, .int .i64 d] 45) = W2 at *
          generalize wr.heap.size = xb at *
          go_quiet (fail)
          have hdn : But Nob W2 (W2.drewN nq) := (But.refl _ _).drewN nq
          have HM3 := Lib.hid (HM1.out.on (hdn.below (Nat.le_refl _) fun _ _ q => q.elim))
          clear hdn d2 d3 HM1
          generalize W2.drewN nq = W3 at *
          have ht : Hid (0 ≤ max 0 (min a 30) ∧ max 0 (min a 30) ≤ 30) := by show _ ∧ _; omega
          have hs : Hid (0 ≤ max 0 (min d 5) ∧ max 0 (min d 5) ≤ 5) := by show _ ∧ _; omega
          generalize max 0 (min a 30) = t at *
          generalize max 0 (min d 5) = s at *
          by_cases he : (takeE c t s).2 = 0
          · obtain ⟨hwt, hE⟩ := takeE_ok he
            have hT : takeT c t s = takeC c t s := by unfold takeT; rw [if_pos he]
            have HT := Lib.hid (takeP t s hE hT HM3.out.one (by have := HLT.out; omega) HM3.out.new)
            have HNW := Lib.hid (take_new HM3.out.inv hwt)
            clear he hE hT hwt
            by_cases hown : c.own = -1
            · rw [show decide (c.own = -1) = true by simpa using hown] at HT
              have HIV := Lib.hid (take_oinv_free HM3.out.inv hown ht.out.1 hs.out)
              clear hown
              go_wp2_with fail
              refine HT.out.mono ?_
              rintro e w4 ⟨rfl, h4, b4⟩
              dsimp only
              obtain ⟨x1, x2, x3⟩ := HM3.out.lock b4
              have HM4 : Hid (OrdM w pb lb (k + 1) (takeC c t s) E wv lv w4) := ⟨h4, x1, x2, HM3.out.sep, x3, HIV.out.1, HM3.out.nod, by have := HM3.out.len; omega⟩
              clear h4 b4 x1 x2 x3 HT HM3
              go_wp2_with fail
              go_roundw
              case rel => exact ⟨k + 1, _, E, wv, lv, rfl, rfl, by go_num, by have := HLT.out; omega, HM4.out, HLE.out⟩
              case measure => have := HLT.out; simp [intOf]; omega
            · rw [show decide (c.own = -1) = false by simpa using hown] at HT
              have HIV := Lib.hid (take_oinv_wait HM3.out.inv hown ht.out.1 hs.out)
              clear hown
              go_wp2_with fail
              refine HT.out.mono ?_
              rintro e w4 ⟨rfl, h4, b4⟩
              dsimp only
              obtain ⟨x1, x2, x3⟩ := HM3.out.lock b4
              have HO4 := Lib.hid h4; have HX1 := Lib.hid x1; have HX2 := Lib.hid x2; have HX3 := Lib.hid x3
              have HSP := Lib.hid HM3.out.sep; have HND := Lib.hid HM3.out.nod; have HLN := Lib.hid HM3.out.len
              obtain ⟨A4, cap4, hwv, -, hcell⟩ := x1.cells
              subst hwv
              have HCE := Lib.hid hcell
              obtain ⟨n4, hn4⟩ : ∃ n, E.length = n := ⟨_, rfl⟩
              have HN4 := Lib.hid hn4
              have hn9 : n4 ≤ 80 := by have := HLN.out; have := HLT.out; omega
              rw [hn4] at HX1 HSP HO4
              clear h4 b4 x1 x2 x3 HT HM3 hcell hn4
              rw [HN4.out]
              go_wp2_with fail
              go_loopw [12, 64] (fun av iv wr2 => ∃ j : Nat, iv = .int .i64 j ∧ j ≤ n4 ∧ av = .int .i64 (cntE s (E.take j) : Nat) ∧ Below w4.heap.size w4 wr2) (fun _ iv _ => n4 - (intOf iv).toNat)
              case atStart => exact ⟨0, rfl, Nat.zero_le _, rfl, Below.refl _ _⟩
              case round =>
                obtain ⟨j, rfl, hj, rfl, hb5⟩ := hrel
                by_cases hjl : j < n4
                · obtain ⟨x, hx⟩ : ∃ x, E[j]? = some x := ⟨_, List.getElem?_eq_getElem (by rw [HN4.out]; exact hjl)⟩
                  obtain ⟨g5, rfl, e0, e1, hg5⟩ := HCE.out j x hx
                  have f0 := (hb5.cell (p := ⟨g5, j * 2, none⟩) hg5).trans e0
                  have f1 := (hb5.cell (p := ⟨g5, j * 2 + 1, none⟩) hg5).trans e1
                  have HSU : Hid (cntE s (E.take (j + 1)) = cntE s (E.take j) + (if x.soc = s then 1 else 0)) := by
                    show cntE s (E.take (j + 1)) = _
                    rw [List.take_add_one, hx, cntE_app]
                    show _ + (if x.soc = s then 0 + 1 else 0) = _
                    rfl
                  have hcl : cntE s (E.take j) ≤ j := by
                    have h2 := cntE_le s (E.take j)
                    rw [List.length_take] at h2; omega
                  have HB5 := Lib.hid hb5; have HJL := Lib.hid hjl
                  have j0 : (0 : Int) ≤ (j : Int) := by omega
                  have j1 : (j : Int) < (n4 : Int) := by omega
                  have HBX : Hid (∀ o, Below w4.heap.size w4 (wr.alloc o)) := fun o => hb5.alloc hb5.size o
                  clear hb5 e0 e1 hx
                  generalize cntE s (E.take j) = cn at *
                  by_cases hxs : x.soc = s
                  · have tq : (x.soc == s) = true := by simpa using hxs
                    rw [if_pos hxs] at HSU
                    clear hxs
                    go_wp2_with fail
                    go_roundw
                    case rel => exact ⟨j + 1, by go_num, by have := HJL.out; omega, by rw [HSU.out]; go_num, HBX.out _⟩
                    case measure => have := HJL.out; simp [intOf]; omega
                  · have tq : (x.soc == s) = false := by simpa using hxs
                    rw [if_neg hxs] at HSU
                    clear hxs
                    go_wp2_with fail
                    go_roundw
                    case rel => exact ⟨j + 1, by go_num, by have := HJL.out; omega, by rw [HSU.out]; rfl, HBX.out _⟩
                    case measure => have := HJL.out; simp [intOf]; omega
                · have hjn : j = n4 := by omega
                  have tj : ¬ (j : Int) < (n4 : Int) := by omega
                  have hcE : cntE s (E.take j) = cntE s E := by rw [List.take_of_length_le (by rw [HN4.out]; omega)]
                  have hcl : cntE s E ≤ n4 := by rw [← HN4.out]; exact cntE_le s E
                  rw [hcE]
                  have HO5 := Lib.hid (HO4.out.nob (But.of_below hb5))
                  have HX5 := Lib.hid (HX1.out.but (X := Nob) (But.of_below hb5) fun _ _ q => q)
                  have HL5 := Lib.hid (HX2.out.but (X := Nob) (But.of_below hb5) fun _ _ q => q)
                  have HB5 := Lib.hid (HX3.out.trans (hb5.mono HX3.out.size))
                  have hal8 : Below wr.heap.size wr (wr.alloc (.cells #[.int .i64 t, .int .i64 s] 62)) := (Below.refl _ _).alloc (Nat.le_refl _) _
                  have HM8 := Lib.hid ((⟨HO5.out, HX5.out, HL5.out, HSP.out, HB5.out⟩ : OrdG w pb lb (k + 1) (takeC c t s) E E (.slice A4 n4 cap4) lv wr).on hal8)
                  have HBS := Lib.hid (Blk.new wr 62 #[.int .i64 t, .int .i64 s])
                  clear hb5 hjn hcE HO4 HX1 HX2 HX3 HCE HO5 HX5 HL5 HB5 hal8
                  have HCN : Hid (cntE s E = cntE s E) := rfl
                  obtain ⟨cn, hcn⟩ : ∃ cn, cntE s E = cn := ⟨_, rfl⟩
                  rw [hcn] at hcl HIV ⊢
                  clear hcn
                  go_wp2_with (at_builtin; refine haltC ?_)
                  refine Lib.hid ?_
                  refine app_wait rfl (.tmp 75) (.tmp 79) rfl w.heap.size (.slice A4 n4 cap4) E rfl HM8.out.wai _ ⟨t, s, ((cn : Int) + 1) * 6 * 4⟩ rfl HBS.out (by have := HN4.out; omega) HM8.out.low.size ?_
                  intro v9 w9 own9 gr9 bk9
                  have HM9 := Lib.hid (HM8.out.more own9 gr9 bk9)
                  clear own9 gr9 bk9 HM8 HBS
                  have hb10 : Below w9.heap.size w9 (w9.alloc (.cells #[.int .i64 (((cn : Int) + 1) * 6 * 4)] 3)) := (Below.refl _ _).alloc (Nat.le_refl _) _
                  have HM10 := Lib.hid (HM9.out.on hb10)
                  have hbs := (Blk.new w9 3 #[.int .i64 (((cn : Int) + 1) * 6 * 4)]).cell 0
                  simp only [List.getElem?_toArray, List.getElem?_cons_zero] at hbs
                  have HBS := Lib.hid hbs
                  clear hb10 hbs HM9
                  go_wp2_with (at_builtin; refine haltC ?_)
                  refine Lib.hid ?_
                  refine app_left rfl (.tmp 81) (.tmp 86) rfl w.heap.size lv E rfl HM10.out.lef _ ⟨t, s, ((cn : Int) + 1) * 6 * 4⟩ rfl HBS.out (by have := HN4.out; omega) HM10.out.low.size ?_
                  intro v11 w11 own11 gr11 bk11
                  have HM11 := Lib.hid (HM10.out.more2 own11 gr11 bk11)
                  clear own11 gr11 bk11 HM10 HBS
                  have HM12 : Hid (OrdM w pb lb (k + 1) (takeC c t s) (E ++ [⟨t, s, ((cn : Int) + 1) * 6 * 4⟩]) v9 v11 w11) := ⟨HM11.out.one, HM11.out.wai, HM11.out.lef, HM11.out.sep, HM11.out.low, HIV.out, by
                    rw [List.map_append, List.nodup_append]
                    refine ⟨HND.out, by simp, fun a ha b hb => ?_⟩
                    simp only [List.map_cons, List.map_nil, List.mem_singleton] at hb
                    subst hb
                    obtain ⟨y, hy, rfl⟩ := List.mem_map.1 ha
                    exact HNW.out y hy, by rw [List.length_append]; have := HLN.out; simp only [List.length_cons, List.length_nil]; omega⟩
                  have HLE2 : Hid (∀ f ∈ E ++ [(⟨t, s, ((cn : Int) + 1) * 6 * 4⟩ : Ent)], f.lft ≤ 3000) := fun f hf => by
                    rcases List.mem_append.1 hf with q | q
                    · exact HLE.out f q
                    · simp only [List.mem_singleton] at q; subst q
                      show ((cn : Int) + 1) * 6 * 4 ≤ 3000
                      omega
                  clear HM11
                  go_wp2_with fail
                  go_roundw
                  case rel => exact ⟨k + 1, _, _, v9, v11, rfl, rfl, by go_num, by have := HLT.out; omega, HM12.out, HLE2.out⟩
                  case measure => have := HLT.out; simp [intOf]; omega
          · obtain ⟨hE, hT⟩ := takeE_bad he
            generalize (takeE c t s).2 = er at *
            have tE : (er == 0) = false := by simpa using he
            have HT := Lib.hid (takeP t s hE hT HM3.out.one (by have := HLT.out; omega) HM3.out.new)
            clear he hE hT
            go_wp2_with fail
            refine HT.out.mono ?_
            rintro e w4 ⟨rfl, h4, b4⟩
            dsimp only
            obtain ⟨x1, x2, x3⟩ := HM3.out.lock b4
            have HM4 : Hid (OrdM w pb lb (k + 1) c E wv lv w4) := ⟨h4, x1, x2, HM3.out.sep, x3, HM3.out.inv, HM3.out.nod, by have := HM3.out.len; omega⟩
            clear h4 b4 x1 x2 x3 HT HM3
            go_wp2_with fail
            go_roundw
            case rel => exact ⟨k + 1, c, E, wv, lv, rfl, rfl, by go_num, by have := HLT.out; omega, HM4.out, HLE.out⟩
            case measure => have := HLT.out; simp [intOf]; omega
        · have hm : (kn : Int).tmod 2 = 1 := by rw [Int.tmod_eq_emod_of_nonneg (by omega)]; omega
          clear hp
          go_upto_region 21 with fail
          clear c0 c1 c2 c3 hm d2 d3
          generalize wr.alloc (.cells #[.int .u64 kn, .int .i64 iv0, .int .i64 a, .int .i64 d] 45) = W2 at *
          generalize wr.heap.size = xb at *
          have HW := Lib.hid (ownerP HM1.out.one)
          by_cases hown : c.own = -1
          · rw [if_pos hown, show (!(c.own == -1)) = false by simpa using hown] at HW
            clear hown
            go_wp2_with fail
            refine HW.out.mono ?_
            rintro e w4 ⟨rfl, rfl⟩
            dsimp only
            go_wp2_with fail
            go_roundw
            case rel => exact ⟨k + 1, c, E, wv, lv, rfl, rfl, by go_num, by have := HLT.out; omega, HM1.out.up, HLE.out⟩
            case measure => have := HLT.out; simp [intOf]; omega
          · rw [if_neg hown, show (!(c.own == -1)) = true by simpa using hown] at HW
            have HISO : Hid (isOfC c c.own = true) := by
              show isOfC c c.own = true
              unfold isOfC
              rw [show (c.own == -1) = false by simpa using hown]; simp
            obtain ⟨ow, how⟩ : ∃ o, c.own = o := ⟨_, rfl⟩
            rw [how] at HW HISO
            clear hown how
            cases hg : goesC c with
            | false =>
              have hz := give_none hg
              have hE0 := nogo_nil HM1.out.inv hg
              have HG := Lib.hid (giveP1 (o := true) (g := false) (ow := 0) (c' := zCoh) ow HISO.out hg (by rw [if_neg (by rintro ⟨_, h⟩; cases h)]) (by rw [if_pos rfl]; exact hz) HM1.out.one (by have := HLT.out; omega) HM1.out.new)
              rw [if_pos rfl, Bool.and_false] at HG
              have HE0 := Lib.hid hE0
              clear hg hz hE0
              go_wp2_with fail
              refine HW.out.mono ?_
              rintro e w4 ⟨rfl, rfl⟩
              dsimp only
              clear HW
              go_wp2_with fail
              refine HG.out.mono ?_
              rintro e w6 ⟨rfl, h6, b6⟩
              dsimp only
              obtain ⟨x1, x2, x3⟩ := HM1.out.lock b6
              have HM6 : Hid (OrdM w pb lb (k + 1) zCoh E wv lv w6) := ⟨h6, x1, x2, HM1.out.sep, x3, by rw [HE0.out]; exact oinv_z, HM1.out.nod, by have := HM1.out.len; omega⟩
              clear h6 b6 x1 x2 x3 HG HM1
              go_wp2_with fail
              go_roundw
              case rel => exact ⟨k + 1, zCoh, E, wv, lv, rfl, rfl, by go_num, by have := HLT.out; omega, HM6.out, HLE.out⟩
              case measure => have := HLT.out; simp [intOf]; omega
            | true =>
              obtain ⟨E1, e, E2, hE, q1, q2, q3, q4⟩ := give_oinv HM1.out.inv hg
              have HG := Lib.hid (giveP1 (o := true) (g := true) (ow := e.tsk) (c' := giveC c) ow HISO.out hg (by rw [if_pos ⟨rfl, rfl⟩]; exact q1.symm) (if_pos rfl) HM1.out.one (by have := HLT.out; omega) HM1.out.new)
              rw [if_pos rfl, Bool.and_self] at HG
              obtain ⟨p1, p2, p3, p4⟩ := told_at hE HM1.out.nod q2
              have HQ := Lib.hid q4
              have HE := Lib.hid hE; have HP1 := Lib.hid p1; have HP2 := Lib.hid p2; have HP3 := Lib.hid p3
              have HLF : Hid (∀ (j : Nat) (x : Ent), E[j]? = some x → 1 ≤ x.lft ∧ x.lft ≤ 3000) := fun j x hx => ⟨q3 x (List.mem_of_getElem? hx), HLE.out x (List.mem_of_getElem? hx)⟩
              obtain ⟨n, hn⟩ : ∃ n, E.length = n := ⟨_, rfl⟩
              obtain ⟨m, hm⟩ : ∃ m, E1.length = m := ⟨_, rfl⟩
              have HN := Lib.hid hn; have HMM := Lib.hid hm
              have hn9 : n ≤ 80 := by have := HM1.out.len; have := HLT.out; omega
              rw [hm] at p4 HP1 HP2 HP3
              rw [hn] at p4
              clear hg hE q1 q2 q3 q4 p1 p2 p3 hm
              obtain ⟨g4, cap4, hwv, hcap4, hg4⟩ := HM1.out.wai.form (by rw [hn]; omega)
              rw [hn] at hwv hcap4
              subst hwv
              clear hn hg4
              go_wp2_with fail
              refine HW.out.mono ?_
              rintro e9 w4 ⟨rfl, rfl⟩
              dsimp only
              clear HW
              go_wp2_with fail
              refine HG.out.mono ?_
              rintro e9 w6 ⟨rfl, h6, b6⟩
              dsimp only
              obtain ⟨x1, x2, x3⟩ := HM1.out.lock b6
              have HM6 : Hid (OrdG w pb lb (k + 1) (giveC c) E E (.slice (some ⟨g4, 0, none⟩) n cap4) lv w6) := ⟨h6, x1, x2, HM1.out.sep, x3⟩
              have HLN := Lib.hid HM1.out.len; have HND := Lib.hid HM1.out.nod
              clear h6 b6 x1 x2 x3 HG HM1
              go_wp2_with fail
              go_loopw [20, 106] (fun av iv wr2 => ∃ j : Nat, iv = .int .i64 j ∧ j ≤ n ∧ av = .int .i64 (if m < j then (m : Int) else -1) ∧ Below w6.heap.size w6 wr2) (fun _ iv _ => n - (intOf iv).toNat)
              case atStart => exact ⟨0, rfl, Nat.zero_le _, by rw [if_neg (by omega)], Below.refl _ _⟩
              case round =>
                obtain ⟨j, rfl, hj, rfl, hb7⟩ := hrel
                by_cases hjl : j < n
                · obtain ⟨x, hx⟩ : ∃ x, E[j]? = some x := ⟨_, List.getElem?_eq_getElem (by rw [HN.out]; exact hjl)⟩
                  obtain ⟨f0, f1⟩ := ((HM6.out.on hb7).wai).at hx
                  have HU := Lib.hid (HP2.out j x hx)
                  have HBX : Hid (∀ o, Below w6.heap.size w6 (wr.alloc o)) := fun o => hb7.alloc hb7.size o
                  have HJL := Lib.hid hjl
                  have j0 : (0 : Int) ≤ (j : Int) := by omega
                  have j1 : (j : Int) < (n : Int) := by omega
                  have j2 : (j : Int) < (cap4 : Int) := by omega
                  have HAT : Hid (j = m → x.tsk = e.tsk) := fun q => by
                    have := HP1.out; rw [← q, hx] at this; cases this; rfl
                  clear hb7 hx
                  by_cases hxe : x.tsk = e.tsk
                  · have tq : (x.tsk == e.tsk) = true := by simpa using hxe
                    have hjm := HU.out hxe
                    have HJM := Lib.hid hjm
                    clear hxe hjm
                    go_wp2_with fail
                    go_roundw
                    case rel => exact ⟨j + 1, by go_num, by have := HJL.out; omega, by rw [if_pos (by have := HJM.out; omega), ← HJM.out], HBX.out _⟩
                    case measure => have := HJL.out; simp [intOf]; omega
                  · have tq : (x.tsk == e.tsk) = false := by simpa using hxe
                    have HJM : Hid (j ≠ m) := fun q => hxe (HAT.out q)
                    have HIF : Hid ((if m < j + 1 then (m : Int) else -1) = if m < j then (m : Int) else -1) := by
                      show _ = _
                      have := HJM.out
                      by_cases q : m < j
                      · rw [if_pos q, if_pos (by omega)]
                      · rw [if_neg q, if_neg (by omega)]
                    clear hxe
                    generalize (if m < j then (m : Int) else -1) = av at *
                    go_wp2_with fail
                    go_roundw
                    case rel => exact ⟨j + 1, by go_num, by have := HJL.out; omega, by rw [HIF.out], HBX.out _⟩
                    case measure => have := HJL.out; simp [intOf]; omega
                · have hjn : j = n := by omega
                  have tj : ¬ (j : Int) < (n : Int) := by omega
                  have tm : ¬ (m : Int) < 0 := by omega
                  rw [if_pos (show m < j by omega)]
                  have HM7 := Lib.hid (HM6.out.on hb7)
                  clear hb7 hjn HM6
                  go_wp2_with fail
                  go_loopw [121] (fun iv wr3 => ∃ j : Nat, iv = .int .i64 j ∧ j ≤ n ∧ OrdG w pb lb (k + 1) (giveC c) E (decJ j E) (.slice (some ⟨g4, 0, none⟩) n cap4) lv wr3) (fun iv _ => n - (intOf iv).toNat)
                  case atStart => exact ⟨0, rfl, Nat.zero_le _, by rw [decJ_zero]; exact HM7.out⟩
                  case round =>
                    obtain ⟨j, rfl, hj, hm8⟩ := hrel
                    have HM8 := Lib.hid hm8
                    clear hm8 HM7
                    by_cases hjl : j < n
                    · obtain ⟨x, hx⟩ : ∃ x, E[j]? = some x := ⟨_, List.getElem?_eq_getElem (by rw [HN.out]; exact hjl)⟩
                      obtain ⟨f0, f1⟩ := HM8.out.wai.at hx
                      have HJL := Lib.hid hjl
                      have j0 : (0 : Int) ≤ (j : Int) := by omega
                      have j1 : (j : Int) < (n : Int) := by omega
                      have j2 : (j : Int) < (cap4 : Int) := by omega
                      have HX := Lib.hid hx
                      have hal : Below wr.heap.size wr (wr.alloc (.cells #[.int .i64 x.tsk, .int .i64 x.soc] 62)) := (Below.refl _ _).alloc (Nat.le_refl _) _
                      have HM9 := Lib.hid (HM8.out.on hal)
                      have d1 := (Blk.new wr 62 #[.int .i64 x.tsk, .int .i64 x.soc]).cell 1
                      simp only [List.getElem?_toArray, List.getElem?_cons_zero, List.getElem?_cons_succ] at d1
                      clear hx hal
                      go_upto_region 37 with fail
                      clear f0 f1
                      generalize wr.alloc (.cells #[.int .i64 x.tsk, .int .i64 x.soc] 62) = W9 at *
                      generalize wr.heap.size = yb at *
                      obtain ⟨-, e1⟩ := HM9.out.wai.at HP1.out
                      have m0 : (0 : Int) ≤ (m : Int) := by omega
                      have m1 : (m : Int) < (n : Int) := by omega
                      have m2 : (m : Int) < (cap4 : Int) := by omega
                      by_cases hjm : j < m
                      · have t1 : (j : Int) < (m : Int) := by omega
                        have tq : (x.soc == e.soc) = false := by simpa using HP3.out j x hjm HX.out
                        clear hjm
                        go_quiet (fail)
                        clear t1 tq
                        have hdn : But Nob W9 (W9.drewN nq) := (But.refl _ _).drewN nq
                        have HM10 := Lib.hid (HM9.out.on (hdn.below (Nat.le_refl _) fun _ _ q => q.elim))
                        clear hdn d1 e1 HM9 HM8
                        generalize W9.drewN nq = W10 at *
                        obtain ⟨gl, cl, hlv, hcl, u0, u1, u2, hm11⟩ := HM10.out.dec HX.out
                        rw [HN.out] at hlv hcl
                        have HM11 := Lib.hid hm11
                        have HLV2 := Lib.hid hlv
                        obtain ⟨l1, l2⟩ := HLF.out j x HX.out
                        have tl : ¬ (x.lft - 1 < 0) := by omega
                        have j3 : (j : Int) < (cl : Int) := by omega
                        clear hm11 HM10
                        subst hlv
                        go_wp2_with fail
                        go_roundw
                        case rel => exact ⟨j + 1, by go_num, by have := HJL.out; omega, HM11.out⟩
                        case measure => have := HJL.out; simp [intOf]; omega
                      · have t1 : ¬ (j : Int) < (m : Int) := by omega
                        clear hjm
                        go_quiet (fail)
                        clear t1
                        have hdn : But Nob W9 (W9.drewN nq) := (But.refl _ _).drewN nq
                        have HM10 := Lib.hid (HM9.out.on (hdn.below (Nat.le_refl _) fun _ _ q => q.elim))
                        clear hdn d1 e1 HM9 HM8
                        generalize W9.drewN nq = W10 at *
                        obtain ⟨gl, cl, hlv, hcl, u0, u1, u2, hm11⟩ := HM10.out.dec HX.out
                        rw [HN.out] at hlv hcl
                        have HM11 := Lib.hid hm11
                        have HLV2 := Lib.hid hlv
                        obtain ⟨l1, l2⟩ := HLF.out j x HX.out
                        have tl : ¬ (x.lft - 1 < 0) := by omega
                        have j3 : (j : Int) < (cl : Int) := by omega
                        clear hm11 HM10
                        subst hlv
                        go_wp2_with fail
                        go_roundw
                        case rel => exact ⟨j + 1, by go_num, by have := HJL.out; omega, HM11.out⟩
                        case measure => have := HJL.out; simp [intOf]; omega
                    · have hjn : j = n := by omega
                      have tj2 : ¬ (j : Int) < (n : Int) := by omega
                      have HM9 : Hid (OrdG w pb lb (k + 1) (giveC c) E (E.map decE) (.slice (some ⟨g4, 0, none⟩) n cap4) lv wr) := by
                        have := HM8.out
                        rw [hjn, ← HN.out, decJ_all, HN.out] at this
                        exact this
                      clear hjn HM8
                      go_upto_region 43 with fail
                      have m0 : (0 : Int) ≤ (m : Int) := by omega
                      have m1 : (m : Int) ≤ (cap4 : Int) := by omega
                      have m3 : (0 : Int) ≤ (m : Int) + 1 := by omega
                      have m4 : (m : Int) + 1 ≤ (n : Int) := by omega
                      have m5 : (n : Int) ≤ (cap4 : Int) := by omega
                      have mw : IntKind.i64.wrap ((m : Int) + 1) = (m : Int) + 1 := IntWalk.i64_in _ (by omega)
                      have mt : ((m : Int) + 1).toNat = m + 1 := by omega
                      obtain ⟨A9, hA9, HA9⟩ : ∃ A9, (if cap4 = m + 1 then some (⟨g4, 0, none⟩ : Addr) else some ⟨g4, (m + 1) * 2, none⟩) = some A9 ∧ Hid (E2 = [] ∨ A9 = ⟨g4, (m + 1) * 2, none⟩) := by
                        by_cases q : cap4 = m + 1
                        · refine ⟨_, if_pos q, .inl ?_⟩
                          refine List.eq_nil_of_length_eq_zero ?_
                          have := HN.out
                          rw [HE.out, List.length_append, List.length_cons] at this
                          have := HMM.out
                          omega
                        · exact ⟨_, if_neg q, .inr rfl⟩
                      have hcb := (CutB.lit wr (.cells #[] 62) 0).drew
                      have HC0 := Lib.hid hcb
                      have HW0 := Lib.hid (wait_lit w.heap.size wr HM9.out.low.size)
                      have HNW := Lib.hid (((HM9.out.on hcb.1).wai).window E1 0 (fun j e9 hj => by
                        rw [HE.out, Nat.zero_add, List.getElem?_append_left (List.getElem?_eq_some_iff.1 hj).1]; exact hj))
                      have HNX : Hid (∀ w8, Below wr.heap.size wr w8 → ∀ j u, (entC E2)[j]? = some u → w8.cell? (A9.add j) = some u) := fun w8 hb8 j u hu => by
                        rcases HA9.out with q | q
                        · rw [q] at hu; simp [entC] at hu
                        · rw [q]
                          exact ((HM9.out.on hb8).wai).window E2 (m + 1) (fun i e9 hi => by
                            rw [HE.out, List.getElem?_append_right (by have := HMM.out; omega), show m + 1 + i - E1.length = i + 1 by have := HMM.out; omega, List.getElem?_cons_succ]
                            exact hi) j u hu
                      have HSZ := Lib.hid ((HM9.out.on hcb.1).low.size)
                      have HL1 : Hid (E1.length ≤ 80 ∧ E2.length ≤ 80 ∧ E1.length + (E2.length + 1) = n) := by
                        have := HN.out
                        rw [HE.out, List.length_append, List.length_cons] at this
                        show _ ∧ _ ∧ _
                        omega
                      clear hcb
                      go_region_law (first
                        | (refine step_wait rfl (.tmp 151) (.tmp 154) rfl w.heap.size (.slice (some ⟨wr.heap.size, 0, none⟩) 0 0) [] rfl HW0.out ⟨g4, 0, none⟩ m cap4 E1 rfl HMM.out.symm HNW.out (by have := HL1.out; simp only [List.length_nil]; omega) HSZ.out ?_; intro v8 w8 own8 gr8 bk8; have HC8 := Lib.hid (HC0.out.more gr8 bk8); have HW8 := Lib.hid own8; clear own8 gr8 bk8)
                        | (refine step_wait rfl (.tmp 155) (.tmp 159) rfl w.heap.size v8 E1 rfl HW8.out A9 (n - (m + 1)) (cap4 - (m + 1)) E2 rfl (by have := HL1.out; have := HMM.out; omega) (HNX.out _ HC8.out.1) (by have := HL1.out; omega) (Nat.le_trans HM9.out.low.size HC8.out.1.size) ?_; intro v9 w9 own9 gr9 bk9; have HC9 := Lib.hid (HC8.out.more gr9 bk9); have HW9 := Lib.hid own9; clear own9 gr9 bk9 HC8 HW8))
                      have HM12 := Lib.hid (HM9.out.anew HC9.out.1 HW9.out HC9.out.2)
                      clear HC9 HW9 HC0 HW0 HNW HNX HSZ HM9 HA9 hA9 m1 m5
                      obtain ⟨gl, cl, hlv, hcl⟩ := HM12.out.lef.form (by rw [List.length_map, HN.out]; omega)
                      rw [List.length_map, HN.out] at hlv hcl
                      subst hlv
                      go_upto_region 44 with fail
                      have m1 : (m : Int) ≤ (cl : Int) := by omega
                      have m5 : (n : Int) ≤ (cl : Int) := by omega
                      obtain ⟨A9, hA9, HA9⟩ : ∃ A9, (if cl = m + 1 then some (⟨gl, 0, none⟩ : Addr) else some ⟨gl, m + 1, none⟩) = some A9 ∧ Hid (E2 = [] ∨ A9 = ⟨gl, m + 1, none⟩) := by
                        by_cases q : cl = m + 1
                        · refine ⟨_, if_pos q, .inl ?_⟩
                          refine List.eq_nil_of_length_eq_zero ?_
                          have := HL1.out
                          have := HMM.out
                          omega
                        · exact ⟨_, if_neg q, .inr rfl⟩
                      have hcb := (CutB.lit w9 (.cells #[] 3) 0).drew
                      have HC0 := Lib.hid hcb
                      have HW0 := Lib.hid (left_lit w.heap.size w9 HM12.out.low.size)
                      have HNW := Lib.hid (((HM12.out.on hcb.1).lef).window (g := gl) rfl (E1.map decE) 0 (fun j e9 hj => by
                        rw [HE.out, Nat.zero_add, List.map_append, List.getElem?_append_left (List.getElem?_eq_some_iff.1 hj).1]; exact hj))
                      have HNX : Hid (∀ w8, Below w9.heap.size w9 w8 → ∀ j u, (numC ((E2.map decE).map (·.lft)))[j]? = some u → w8.cell? (A9.add j) = some u) := fun w8 hb8 j u hu => by
                        rcases HA9.out with q | q
                        · rw [q] at hu; simp [numC] at hu
                        · rw [q]
                          exact ((HM12.out.on hb8).lef).window (g := gl) rfl (E2.map decE) (m + 1) (fun i e9 hi => by
                            rw [HE.out, List.map_append, List.getElem?_append_right (by rw [List.length_map]; have := HMM.out; omega), List.length_map, show m + 1 + i - E1.length = i + 1 by have := HMM.out; omega, List.map_cons, List.getElem?_cons_succ]
                            exact hi) j u hu
                      have HSZ := Lib.hid ((HM12.out.on hcb.1).low.size)
                      clear hcb
                      go_region_law (first
                        | (refine step_left rfl (.tmp 161) (.tmp 164) rfl w.heap.size (.slice (some ⟨w9.heap.size, 0, none⟩) 0 0) [] rfl HW0.out ⟨gl, 0, none⟩ m cl (E1.map decE) rfl (by rw [List.length_map]; exact HMM.out.symm) HNW.out (by have := HL1.out; rw [List.length_map]; simp only [List.length_nil]; omega) HSZ.out ?_; intro v8 w8 own8 gr8 bk8; have HC8 := Lib.hid (HC0.out.more gr8 bk8); have HW8 := Lib.hid own8; clear own8 gr8 bk8)
                        | (refine step_left rfl (.tmp 165) (.tmp 169) rfl w.heap.size v8 (E1.map decE) rfl HW8.out A9 (n - (m + 1)) (cl - (m + 1)) (E2.map decE) rfl (by rw [List.length_map]; have := HL1.out; have := HMM.out; omega) (HNX.out _ HC8.out.1) (by rw [List.length_map, List.length_map]; have := HL1.out; omega) (Nat.le_trans HM12.out.low.size HC8.out.1.size) ?_; intro v10 w10 own10 gr10 bk10; have HC10 := Lib.hid (HC8.out.more gr10 bk10); have HW10 := Lib.hid own10; clear own10 gr10 bk10 HC8 HW8))
                      have HM13 := Lib.hid (HM12.out.anew2 HC10.out.1 HW10.out HC10.out.2)
                      have HM14 : Hid (OrdM w pb lb (k + 1) (giveC c) ((E1 ++ E2).map decE) v9 v10 w10) := ⟨HM13.out.one, (by
                        have := HM13.out.wai
                        unfold WaitR at this ⊢
                        rw [entC_dec, List.length_map]; exact this), (by
                        rw [List.map_append]; exact HM13.out.lef), HM13.out.sep, HM13.out.low, HQ.out, (by
                        have := HND.out
                        rw [HE.out] at this
                        rw [List.map_map]
                        refine List.Nodup.sublist ?_ this
                        show List.Sublist ((E1 ++ E2).map (·.tsk)) _
                        exact (List.Sublist.append (List.Sublist.refl _) (List.sublist_cons_self _ _)).map _), (by
                        rw [List.length_map, List.length_append]
                        have := HL1.out; have := HLN.out; rw [HN.out] at this; omega)⟩
                      have HLE2 : Hid (∀ f ∈ (E1 ++ E2).map decE, f.lft ≤ 3000) := fun f hf => by
                        obtain ⟨y, hy, rfl⟩ := List.mem_map.1 hf
                        have := HLE.out y (by rw [HE.out]; simp only [List.mem_append, List.mem_cons] at hy ⊢; rcases hy with hy | hy; exact .inl hy; exact .inr (.inr hy))
                        show y.lft - 1 ≤ 3000
                        omega
                      clear HM13 HM12 HC10 HW10 HC0 HW0 HNW HNX HSZ
                      go_wp2_with fail
                      go_roundw
                      case rel => exact ⟨k + 1, _, _, v9, v10, rfl, rfl, by go_num, by have := HLT.out; omega, HM14.out, HLE2.out⟩
                      case measure => have := HLT.out; simp [intOf]; omega
      · have t : ¬ (k : Int) < (N : Int) := by omega
        clear hb
        go_wp2_with fail
        refine (HLV.out _).mono ?_
        rintro e w9 ⟨rfl, h9⟩
        dsimp only
        have HB9 := Lib.hid (HM.out.low.trans (h9.mono HM.out.low.size))
        clear h9
        go_wp2_with fail
        go_ret
        exact ⟨rfl, HB9.out⟩
end Go.Proofs.Ytdomgipbadimmaa
