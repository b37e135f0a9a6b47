/- The document's Reach, in a fine program. -/
import Derived.Test.YthoddoabcdbliaaLu
import Derived.Test.YthoddoabcdbliaaPb
import Derived.Test.YthoddoabcdbliaaPc
namespace Go.Proofs.Ythoddoabcdbliaa
open Go.RowKit

def fwB (W : World) (G : Nat) : Nat → Bool := fun i => match W.cell? ⟨G, i, none⟩ with
  | some (.bool b) => b
  | _ => false
def mesB (N G : Nat) (c : Value) (W : World) : Nat := 2 * (N - cnt (fwB W G) N) + (match c with | .bool true => 1 | _ => 0)
theorem mesB_eq {W : World} {G : Nat} {S : Nat → Bool} {N : Nat} (h : Blk W G 4 (boolC S N)) (b : Bool) : mesB N G (.bool b) W = 2 * (N - cnt S N) + (if b then 1 else 0) := by
  have : cnt (fwB W G) N = cnt S N := cnt_congr N fun i hi => by
    unfold fwB
    rw [h.cell i, boolC_get _ hi]
  unfold mesB; rw [this]; cases b <;> rfl
structure StR (w : World) (G : Nat) (prio : Int) (A : Option Addr) (N cap : Nat) (S : Nat → Bool) (wr : World) : Prop where
  p : Blk wr w.heap.size 24 #[.int .i64 prio, .slice A N cap]
  g : Blk wr G 4 (boolC S N)
  b : Below w.heap.size w wr
theorem StR.set {w wr : World} {G N cap : Nat} {prio : Int} {A : Option Addr} {S : Nat → Bool} (h : StR w G prio A N cap S wr) (hG : w.heap.size < G) {k : Nat} (hk : k < N) (b : Bool) {T : Nat → Bool} (hT : ∀ i, i < N → (if i = k then b else S i) = T i) : StR w G prio A N cap T (wr.setCell ⟨G, k, none⟩ (.bool b)) := by
  have hb : But (fun j => j = G) wr (wr.setCell ⟨G, k, none⟩ (.bool b)) := (But.refl (fun j => j = G) wr).set _ _ (.inl rfl)
  refine ⟨h.p.but hb (by omega), ?_, h.b.trans (hb.below h.b.size fun j _ e => by rw [e]; omega)⟩
  have := h.g.set_ k (.bool b)
  rw [boolC_set _ b hk, boolC_congr hT] at this
  exact this
theorem StR.below {w wr wx : World} {G N cap : Nat} {prio : Int} {A : Option Addr} {S : Nat → Bool} (h : StR w G prio A N cap S wr) (hb : Below wr.heap.size wr wx) : StR w G prio A N cap S wx :=
  ⟨h.p.below hb h.p.lt, h.g.below hb h.g.lt, h.b.trans (hb.mono h.b.size)⟩
set_option maxRecDepth 100000 in
set_option maxHeartbeats 8000000 in
theorem refReach_any (prio : Int) (A : Option Addr) (l : List I4) (cap : Nat) (w : World) (hI : InsIn w A l) (hf : Fine prio l) :
    Calls Try.prog 9 #[.agg #[.int .i64 prio, .slice A l.length cap]] w fun e w' => ∃ (S : Nat → Bool) (G : Nat), e = .returned (.slice (some ⟨G, 0, none⟩) l.length l.length) ∧ (∀ k, S k = true ↔ Rch l k) ∧ Blk w' G 4 (boolC S l.length) ∧ w.heap.size ≤ G ∧ Below w.heap.size w w' := by
  have hlen := hf.len
  have hB1 : Below w.heap.size w (w.alloc (.cells #[.int .i64 prio, .slice A l.length cap] 24)) := (Below.refl _ _).alloc (Nat.le_refl _) _
  have HGO : Hid (∀ (W : World) (a : Nat) (x : I4) (t : Nat), Below w.heap.size w W → l[a]? = some x → Calls Try.prog 8 #[.agg #[.int .i64 prio, .slice A l.length cap], .int .i64 a, .int .i64 t] W (GotB W.heap.size (.bool (decide ((t : Int) ∈ nextP x a))) W)) := fun W a x t h hx => goes_in x prio A l cap a t W (hI.below h) hx hlen.2
  have HDN : Hid (∀ S, DInv l S → (∀ a b, a < l.length → b < l.length → ¬ Opn l S a b) → ∀ k, S k = true ↔ Rch l k) := fun S h hc => h.done hf (fun k x hx => (hI k x hx).1.n) hc
  have hb := Blk.new w 24 #[.int .i64 prio, .slice A l.length cap]
  have HB := Lib.hid hb; have HB1 := Lib.hid hB1
  clear hI hf hb hB1
  obtain ⟨N, hN⟩ : ∃ N, l.length = N := ⟨_, rfl⟩
  have HN := Lib.hid hN
  rw [hN] at hlen HGO HDN HB HB1 ⊢
  clear hN
  have hmk := run_make_row' (P := Try.prog) 29 4 (.bool false) 1 Try.underlying29 infoBool rfl .i64 .i64 N (by omega) (by omega)
  rw [boolC_made] at hmk
  have x0 := HB.out.cell 0; have x1 := HB.out.cell 1
  simp only [List.getElem?_toArray, List.getElem?_cons_zero, List.getElem?_cons_succ] at x0 x1
  have hsz : (w.alloc (.cells #[.int .i64 prio, .slice A N cap] 24)).heap.size = w.heap.size + 1 := by simp
  have hG0 : w.heap.size < w.heap.size + 1 := by omega
  have hS0 : StR w (w.heap.size + 1) prio A N cap (fun _ => false) ((w.alloc (.cells #[.int .i64 prio, .slice A N cap] 24)).alloc (.cells (boolC (fun _ => false) N) 4)) :=
    ⟨HB.out.alloc _, hsz ▸ Blk.new _ _ _, HB1.out.alloc (by omega) _⟩
  clear hsz
  have HS0 := Lib.hid hS0; have HG0 := Lib.hid hG0
  clear hS0 hG0
  go_enter Try.func9, Try.ntmps9
  go_wp2_with fail
  clear x0 x1 HB HB1 hmk
  generalize (w.alloc (.cells #[.int .i64 prio, .slice A N cap] 24)).alloc (.cells (boolC (fun _ => false) N) 4) = W2 at *
  generalize w.heap.size + 1 = G at *
  go_loopw [14] (fun i wr => ∃ k : Nat, k ≤ N ∧ i = .int .i64 k ∧ StR w G prio A N cap (fun i => decide (i < k) && decide (i = 0)) wr) (fun i _ => N - (intOf i).toNat)
  case atStart => exact ⟨0, Nat.zero_le _, rfl, by simpa using HS0.out⟩
  case round =>
    obtain ⟨k, hk, rfl, hst⟩ := hrel
    have HST := Lib.hid hst
    clear hst HS0
    by_cases hlt : k < N
    · have c0 := (HST.out.g.cell k).trans (boolC_get _ hlt)
      have cf : wr.frozen? ⟨G, k, none⟩ = false := HST.out.g.free k
      have k0 : (0 : Int) ≤ (k : Int) := by omega
      have k1 : (k : Int) < (N : Int) := by omega
      have HN1 : ∀ b, decide (k = 0) = b → StR w G prio A N cap (fun i => decide (i < k + 1) && decide (i = 0)) (wr.setCell ⟨G, k, none⟩ (.bool b)) := fun b hb => HST.out.set HG0.out hlt b (fun i _ => by
        by_cases e : i = k
        · subst e; rw [← hb, if_pos rfl, Bool.eq_iff_iff]; simp
        · have : decide (i < k) = decide (i < k + 1) := by rw [decide_eq_decide]; omega
          simp [e, this])
      have HN1 := Lib.hid HN1
      have HK := Lib.hid hlt
      by_cases e0 : k = 0
      · subst e0
        go_wp2_with fail
        go_roundw
        case rel => exact ⟨1, HK.out, by go_num, HN1.out _ rfl⟩
        case measure => simp [intOf]; have := HK.out; omega
      · have e1 : ¬ (k : Int) = 0 := by omega
        have e2 : ((k : Int) == 0) = false := by simpa using e0
        go_wp2_with fail
        go_roundw
        case rel => exact ⟨k + 1, by omega, by go_num, HN1.out _ (by simpa using e0)⟩
        case measure => simp [intOf]; omega
    · obtain rfl : k = N := by omega
      have t : ¬ (k : Int) < (k : Int) := by omega
      have HST2 : Hid (StR w G prio A k cap (fun i => decide (i = 0)) wr) := by
        have := HST.out
        refine ⟨this.p, ?_, this.b⟩
        have hg := this.g
        rw [boolC_congr (g := fun i => decide (i = 0)) (fun i hi => by simp [hi])] at hg
        exact hg
      have hlen2 := hlen
      clear HST
      go_wp2_with fail
      go_loopw [5] (fun c wr => ∃ (b : Bool) (S : Nat → Bool), c = .bool b ∧ StR w G prio A k cap S wr ∧ DInv l S ∧ (b = false → ∀ a b, a < k → b < k → ¬ Opn l S a b)) (fun c wr => mesB k G c wr)
      case atStart => exact ⟨true, _, rfl, HST2.out, DInv.start l, fun h => (by cases h)⟩
      case round =>
        obtain ⟨b, S, rfl, hst, hd, hc⟩ := hrel
        have HST := Lib.hid hst; have HD := Lib.hid hd; have HC := Lib.hid hc
        clear hst hd hc HST2
        cases b with
        | false =>
          go_wp2_with fail
          go_ret
          exact ⟨S, G, rfl, HDN.out S HD.out (HC.out trivial), HST.out.g, Nat.le_of_lt HG0.out, HST.out.b⟩
        | true =>
          have HMS := Lib.hid (mesB_eq HST.out.g true)
          clear HC
          go_wp2_with fail
          go_loopw [5, 26] (fun c i wx => ∃ (b1 : Bool) (a : Nat) (S1 : Nat → Bool), c = .bool b1 ∧ i = .int .i64 a ∧ a ≤ k ∧ StR w G prio A k cap S1 wx ∧ DInv l S1 ∧ (b1 = false → S1 = S ∧ ∀ a' b', a' < a → b' < k → ¬ Opn l S a' b') ∧ (b1 = true → cnt S k < cnt S1 k)) (fun _ i _ => k - (intOf i).toNat)
          case atStart => exact ⟨false, 0, S, rfl, rfl, Nat.zero_le _, HST.out, HD.out, fun _ => ⟨rfl, fun a' b' h => absurd h (by omega)⟩, fun h => (by cases h)⟩
          case round =>
            obtain ⟨b1, a, S1, rfl, rfl, ha, hst, hd, hc0, hc1⟩ := hrel
            clear HST HD
            have HST := Lib.hid hst; have HD := Lib.hid hd; have HC0 := Lib.hid hc0; have HC1 := Lib.hid hc1
            clear hst hd hc0 hc1
            by_cases hlt : a < k
            · obtain ⟨x, hx⟩ : ∃ x, l[a]? = some x := ⟨_, List.getElem?_eq_getElem (by rw [HN.out]; exact hlt)⟩
              have HX := Lib.hid hx
              clear hx
              go_wp2_with fail
              go_loopw [5, 31] (fun c j wy => ∃ (b2 : Bool) (b : Nat) (S2 : Nat → Bool), c = .bool b2 ∧ j = .int .i64 b ∧ b ≤ k ∧ StR w G prio A k cap S2 wy ∧ DInv l S2 ∧ (b2 = false → b1 = false ∧ S2 = S1 ∧ ∀ b', b' < b → ¬ Opn l S a b') ∧ (b2 = true → cnt S k < cnt S2 k)) (fun _ j _ => k - (intOf j).toNat)
              case atStart => exact ⟨b1, 0, S1, rfl, rfl, Nat.zero_le _, HST.out, HD.out, fun h => ⟨h, rfl, fun b' h => absurd h (by omega)⟩, HC1.out⟩
              case round =>
                obtain ⟨b2, b, S2, rfl, rfl, hb, hst, hd, hd0, hd1⟩ := hrel
                clear HST HD
                have HST := Lib.hid hst; have HD := Lib.hid hd; have HD0 := Lib.hid hd0; have HD1 := Lib.hid hd1
                clear hst hd hd0 hd1
                by_cases hlb : b < k
                · have a0 : (0 : Int) ≤ (a : Int) := by omega
                  have a1 : (a : Int) < (k : Int) := by omega
                  have b0 : (0 : Int) ≤ (b : Int) := by omega
                  have b1' : (b : Int) < (k : Int) := by omega
                  have ca := (HST.out.g.cell a).trans (boolC_get _ hlt)
                  have cb := (HST.out.g.cell b).trans (boolC_get _ hlb)
                  have x0 := HST.out.p.cell 0; have x1 := HST.out.p.cell 1
                  simp only [List.getElem?_toArray, List.getElem?_cons_zero, List.getElem?_cons_succ] at x0 x1
                  have hno : ¬ Opn l S2 a b → (b2 = false → b1 = false ∧ S2 = S1 ∧ ∀ b', b' < b + 1 → ¬ Opn l S a b') := fun hn h => ⟨(HD0.out h).1, (HD0.out h).2.1, fun b' hb' => by
                    by_cases e : b' = b
                    · subst e; rw [← (HC0.out (HD0.out h).1).1, ← (HD0.out h).2.1]; exact hn
                    · exact (HD0.out h).2.2 b' (by omega)⟩
                  have HNO := Lib.hid hno
                  clear hno
                  obtain ⟨q, hq⟩ : ∃ q, decide ((b : Int) ∈ nextP x a) = q := ⟨_, rfl⟩
                  have HQ := Lib.hid hq
                  have HCA := HGO.out wr a x b HST.out.b HX.out
                  rw [hq] at HCA
                  have HCA := Lib.hid HCA
                  clear hq
                  have HAB := Lib.hid hlb
                  cases e1 : S2 a with
                  | false =>
                    rw [e1] at ca
                    have hn : ¬ Opn l S2 a b := fun ho => by have := ho.1; rw [e1] at this; cases this
                    have HNX := Lib.hid (HNO.out hn)
                    clear hn e1 HNO
                    go_wp2_with fail
                    go_roundw
                    case rel => exact ⟨b2, b + 1, S2, rfl, by go_num, by omega, HST.out, HD.out, HNX.out, HD1.out⟩
                    case measure => simp [intOf]; omega
                  | true =>
                    cases e2 : S2 b with
                    | true =>
                      rw [e1] at ca; rw [e2] at cb
                      have hn : ¬ Opn l S2 a b := fun ho => by have := ho.2.1; rw [e2] at this; cases this
                      have HNX := Lib.hid (HNO.out hn)
                      clear hn e1 e2 HNO
                      go_wp2_with fail
                      go_roundw
                      case rel => exact ⟨b2, b + 1, S2, rfl, by go_num, by omega, HST.out, HD.out, HNX.out, HD1.out⟩
                      case measure => simp [intOf]; omega
                    | false =>
                      rw [e1] at ca; rw [e2] at cb
                      cases q with
                      | false =>
                        have hn : ¬ Opn l S2 a b := fun ho => by
                          obtain ⟨-, -, y, hy, hm⟩ := ho
                          obtain rfl := Option.some.inj (HX.out.symm.trans hy)
                          exact of_decide_eq_false HQ.out hm
                        have HNX := Lib.hid (HNO.out hn)
                        clear hn e1 e2 HNO
                        go_wp2_with (go_at_call 8; (with_reducible refine HCA.out.mono ?_); rintro e wq ⟨rfl, hb5⟩; have HB5 := Lib.hid hb5; clear hb5)
                        go_roundw
                        case rel => exact ⟨b2, b + 1, S2, rfl, by go_num, by omega, HST.out.below HB5.out, HD.out, HNX.out, HD1.out⟩
                        case measure => simp [intOf]; omega
                      | true =>
                        have ho : Opn l S2 a b := ⟨e1, e2, x, HX.out, of_decide_eq_true HQ.out⟩
                        have HDN2 := Lib.hid (HD.out.put ho)
                        have HCN := Lib.hid (cnt_put' S2 hlb e2)
                        have hge : cnt S k ≤ cnt S2 k := by
                          cases hb2 : b2 with
                          | false => rw [(HD0.out hb2).2.1, (HC0.out (HD0.out hb2).1).1]; exact Nat.le_refl _
                          | true => exact Nat.le_of_lt (HD1.out hb2)
                        have HGE := Lib.hid hge
                        clear ho hge e1 e2 HNO
                        go_wp2_with (go_at_call 8; (with_reducible refine HCA.out.mono ?_); rintro e wq ⟨rfl, hb5⟩; have HB5 := Lib.hid hb5; have cf := (HST.out.below hb5).g.free b; have cbq := ((HST.out.below hb5).g.cell b).trans (boolC_get _ hlb); clear hb5)
                        go_roundw
                        case rel => exact ⟨true, b + 1, _, rfl, by go_num, by omega, (HST.out.below HB5.out).set HG0.out hlb true (fun i _ => rfl), HDN2.out, fun h => (by cases h), fun _ => by rw [HCN.out]; have := HGE.out; omega⟩
                        case measure => simp [intOf]; omega
                · obtain rfl : b = k := by omega
                  have t : ¬ (b : Int) < (b : Int) := by omega
                  go_wp2_with fail
                  go_roundw
                  case rel => exact ⟨b2, a + 1, S2, rfl, by go_num, by omega, HST.out, HD.out, fun h => ⟨(HD0.out h).2.1.trans (HC0.out (HD0.out h).1).1, fun a' b' h1 h2 => by
                    by_cases e : a' = a
                    · subst e; exact (HD0.out h).2.2 b' h2
                    · exact (HC0.out (HD0.out h).1).2 a' b' (by omega) h2⟩, HD1.out⟩
                  case measure => simp [intOf]; omega
            · obtain rfl : a = k := by omega
              have t : ¬ (a : Int) < (a : Int) := by omega
              have HME := Lib.hid (mesB_eq HST.out.g b1)
              have hcl := cnt_le S1 a
              go_wp2_with fail
              go_roundw
              case rel => exact ⟨b1, S1, rfl, HST.out, HD.out, fun h => by rw [(HC0.out h).1]; exact (HC0.out h).2⟩
              case measure =>
                rw [HMS.out, HME.out]
                cases b1 with
                | false => rw [(HC0.out rfl).1]; simp
                | true => have := HC1.out rfl; simp; omega
end Go.Proofs.Ythoddoabcdbliaa
