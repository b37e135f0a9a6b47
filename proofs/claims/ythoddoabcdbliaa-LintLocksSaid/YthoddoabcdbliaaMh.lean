/- lint.Leaks; rows of numbers held against each other. -/
import Derived.Test.YthoddoabcdbliaaMg
namespace Go.Proofs.Ythoddoabcdbliaa
open Go.RowKit

theorem haltM {p : Prop} (h : Hid p) : p := h.out
/-- What may be had goes together. -/
def MayC (l : List I4) (locks : Int) (F : Nat → Nat → Bool) : Prop := ∀ pc x, Rch l pc → l[pc]? = some x → ∀ j : Nat, (j : Int) ∈ nextP x pc → ∀ b, b < 16 → (F j b || bhP x (F pc) (allP locks) b) = F j b
set_option maxRecDepth 100000 in
set_option maxHeartbeats 8000000 in
theorem Leaks_any (prio locks : Int) (A : Option Addr) (l : List I4) (cap : Nat) (Inv : (Nat → Nat → Bool) → Prop) (BI : Nat → (Nat → Bool) → Prop) (w : World) (hI : InsIn w A l) (hA : ∀ a, A = some a → a.block < w.heap.size) (hf : Fine prio l) (h0 : Inv fun _ _ => false)
    (hB : ∀ F pc x, Inv F → Rch l pc → l[pc]? = some x → BI pc (bhP x (F pc) (allP locks)))
    (hS : ∀ F pc x (j : Nat) B, Inv F → Rch l pc → l[pc]? = some x → (j : Int) ∈ nextP x pc → BI pc B → Inv (upd F j (fun k => F j k || B k))) :
    Calls Try.prog 17 #[.agg #[.int .i64 prio, .slice A l.length cap], .int .i64 locks] w fun e w' => ∃ F v, e = .returned v ∧ MineN w.heap.size v (leakL F l l.length) w' ∧ Inv F ∧ MayC l locks F ∧ Below w.heap.size w w' := by
  have hlen := hf.len
  have hb := Blk.new w 24 #[.int .i64 prio, .slice A l.length cap]
  have hB1 : Below w.heap.size w (w.alloc (.cells #[.int .i64 prio, .slice A l.length cap] 24)) := (Below.refl _ _).alloc (Nat.le_refl _) _
  have HM := Lib.hid (May_any prio locks A l cap Inv BI _ (hI.below hB1) (fun a ha => Nat.lt_of_lt_of_le (hA a ha) hB1.size) hf h0 hB hS)
  have HB := Lib.hid hb; have HB1 := Lib.hid hB1; have HI := Lib.hid hI
  obtain ⟨N, hN⟩ : ∃ N, l.length = N := ⟨_, rfl⟩
  have HN := Lib.hid hN
  rw [hN] at HM HB HB1 hlen ⊢
  have x0 := HB.out.cell 0; have x1 := HB.out.cell 1
  simp only [List.getElem?_toArray, List.getElem?_cons_zero, List.getElem?_cons_succ] at x0 x1
  clear hI hA hf h0 hB hS hb hB1 hN
  go_enter Try.func17, Try.ntmps17
  go_wp2_with fail
  refine HM.out.mono ?_
  rintro e w2 ⟨F, G, rfl, hg, hi, hc, hsz, hb2⟩
  dsimp only
  have HG := Lib.hid hg; have HIN := Lib.hid hi; have HC : Hid (MayC l locks F) := hc
  have HP := Lib.hid (HB.out.below hb2 HB.out.lt); have HB2 := Lib.hid (HB1.out.trans (hb2.mono HB1.out.size))
  clear hg hi hc hsz hb2 x0 x1 HB HB1 HM
  go_wp2_with fail
  go_loopw [5, 12] (fun lv i wr => ∃ (k : Nat) (v : Value), v = lv ∧ i = .int .i64 k ∧ k ≤ N ∧ MineN w2.heap.size v (leakL F l k) wr ∧ Below w2.heap.size w2 wr) (fun _ i _ => N - (intOf i).toNat)
  case atStart => exact ⟨0, _, rfl, rfl, Nat.zero_le _, mineN_nil _ _, Below.refl _ _⟩
  case round =>
    obtain ⟨k, v, rfl, rfl, hk, hm, hb⟩ := hrel
    have HMN := Lib.hid hm; have HBB := Lib.hid hb
    clear hm hb
    by_cases hlt : k < N
    · obtain ⟨x, hx⟩ : ∃ x, l[k]? = some x := ⟨_, List.getElem?_eq_getElem (by rw [HN.out]; exact hlt)⟩
      have hg := HG.out.below HBB.out HG.out.lt
      have hp := HP.out.below HBB.out HP.out.lt
      have g0 : wr.cell? ⟨G, k, none⟩ = some (.int .u16 (wordB (F k) 16 : Nat)) := (hg.cell k).trans (setC_get _ hlt)
      have x0 := hp.cell 0; have x1 := hp.cell 1
      simp only [List.getElem?_toArray, List.getElem?_cons_zero, List.getElem?_cons_succ] at x0 x1
      obtain ⟨-, bb, off, rfl, -, c0, -⟩ := (HI.out.below (HB2.out.trans (HBB.out.mono HB2.out.size))) k x hx
      have k0 : (0 : Int) ≤ (k : Int) := by omega
      have k1 : (k : Int) < (N : Int) := by omega
      have hll := leakL_len F l k
      have hsu := leakL_succ F l k
      rw [hx] at hsu
      simp only [Option.map_some, Option.some.injEq] at hsu
      have HSU := Lib.hid hsu
      generalize wordB (F k) 16 = u at *
      obtain ⟨xo, xa, xb, xn⟩ := x
      dsimp only at c0 HSU
      clear hg hp hx hsu
      by_cases hu : u ≠ 0 ∧ xo = 14
      · obtain ⟨hu0, rfl⟩ := hu
        have t : ((u : Int) != 0) = true := by simp; omega
        rw [if_pos ⟨hu0, rfl⟩] at HSU
        have ha : Below wr.heap.size wr (wr.alloc (.cells #[.int .i64 k] 3)) := (Below.refl _ _).alloc (Nat.le_refl _) _
        have HM8 := Lib.hid (HMN.out.on ha)
        have HB8 := Lib.hid (HBB.out.trans (ha.mono HBB.out.size))
        have hbs := (Blk.new wr 3 #[.int .i64 k]).cell 0
        simp only [List.getElem?_toArray, List.getElem?_cons_zero] at hbs
        have HBS := Lib.hid hbs
        clear ha hbs
        go_wp2_with (at_builtin; refine haltM ?_)
        refine Lib.hid ?_
        refine app_mine rfl (.tmp 28) (.tmp 30) rfl w2.heap.size v (leakL F l k) rfl HM8.out _ k rfl HBS.out (by omega) HB8.out.size ?_
        intro v' w9 own9 b9
        have HM9 : Hid (MineN w2.heap.size v' (leakL F l (k + 1)) w9) := by
          show MineN _ _ _ _
          rw [HSU.out]; exact own9
        have HB9 := Lib.hid (HB8.out.trans b9)
        clear own9 b9 HM8 HB8 HBS
        go_wp2_with fail
        go_roundw
        case rel => exact ⟨k + 1, v', rfl, by go_num, by omega, HM9.out, HB9.out⟩
        case measure => simp [intOf]; omega
      · rw [if_neg hu, List.append_nil] at HSU
        have HM9 : Hid (MineN w2.heap.size v (leakL F l (k + 1)) wr) := by
          show MineN _ _ _ _
          rw [HSU.out]; exact HMN.out
        have hc : u = 0 ∨ (u ≠ 0 ∧ xo ≠ 14) := by
          by_cases h : u = 0
          · exact .inl h
          · exact .inr ⟨h, fun e => hu ⟨h, e⟩⟩
        clear hu
        rcases hc with rfl | ⟨h1, h2⟩
        · go_wp2_with fail
          go_roundw
          case rel => exact ⟨k + 1, v, rfl, by go_num, by omega, HM9.out, HBB.out⟩
          case measure => simp [intOf]; omega
        · have t : ((u : Int) != 0) = true := by simp; omega
          have t2 : (xo == 14) = false := by simpa using h2
          go_wp2_with fail
          go_roundw
          case rel => exact ⟨k + 1, v, rfl, by go_num, by omega, HM9.out, HBB.out⟩
          case measure => simp [intOf]; omega
    · obtain rfl : k = N := by omega
      have t : ¬ (k : Int) < (k : Int) := by omega
      have HMW : Hid (MineN w.heap.size v (leakL F l k) wr) := by
        have h := HMN.out
        refine ⟨h.1, ?_⟩
        rcases h.2 with hn | ⟨g, cp, cur, e, hbb, rest⟩
        · exact .inl hn
        · exact .inr ⟨g, cp, cur, e, Nat.le_trans HB2.out.size hbb, rest⟩
      go_wp2_with fail
      go_ret
      exact ⟨F, v, rfl, HMW.out, HIN.out, HC.out, HB2.out.trans (HBB.out.mono HB2.out.size)⟩
set_option maxRecDepth 100000 in
set_option maxHeartbeats 8000000 in
theorem same04_yes (A A' : Option Addr) (l : List Int) (cap cap' : Nat) (w : World) (hl : l.length ≤ 100000) (hI : NumsIn w A l) (hJ : NumsIn w A' l) :
    Calls Try.prog 11 #[.slice A l.length cap, .slice A' l.length cap'] w (GotB w.heap.size (.bool true) w) := by
  obtain ⟨n, hn⟩ : ∃ n, l.length = n := ⟨_, rfl⟩
  have HN := Lib.hid hn
  rw [hn] at hl ⊢
  have HI := Lib.hid hI; have HJ := Lib.hid hJ
  have t1 : ((n : Int) != (n : Int)) = false := by simp
  clear hI hJ hn
  go_enter Try.func11, Try.ntmps11
  go_wp2_with fail
  clear t1
  go_loopw [13] (fun i wr => ∃ k : Nat, k ≤ n ∧ i = .int .i64 k ∧ Below w.heap.size w wr) (fun i _ => n - (intOf i).toNat)
  case atStart => exact ⟨0, Nat.zero_le _, rfl, Below.refl _ _⟩
  case round =>
    obtain ⟨k, hk, rfl, hb⟩ := hrel
    have HB := Lib.hid hb
    by_cases hlt : k < n
    · obtain ⟨x, hx⟩ : ∃ x, l[k]? = some x := ⟨_, List.getElem?_eq_getElem (by rw [HN.out]; exact hlt)⟩
      obtain ⟨bb, off, rfl, -, c0⟩ := (HI.out.below hb) k x hx
      obtain ⟨bd, ofd, rfl, -, d0⟩ := (HJ.out.below hb) k x hx
      have k0 : (0 : Int) ≤ (k : Int) := by omega
      have k1 : (k : Int) < (n : Int) := by omega
      have t : (x != x) = false := by simp
      clear hx hb
      go_wp2_with fail
      go_quiet (fail)
      go_wp2_with fail
      go_roundw
      case rel => exact ⟨k + 1, by omega, by go_num, below_drewN HB.out _⟩
      case measure => simp [intOf]; omega
    · have t : ¬ (k : Int) < (n : Int) := by omega
      go_wp2_with fail
      go_ret
      exact ⟨rfl, HB.out⟩
end Go.Proofs.Ythoddoabcdbliaa
