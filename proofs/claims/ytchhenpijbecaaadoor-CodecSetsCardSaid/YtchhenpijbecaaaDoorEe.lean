/- layer 31 (codec): the document's Set. -/
import Derived.Test.YtchhenpijbecaaaDoorEa
import Derived.Test.YtchhenpijbecaaaDoorDa
namespace Go.Proofs.YtchhenpijbecaaaDoor
open Go.RowKit
set_option maxRecDepth 100000

/-- the least number that may begin the next row. -/
def nx : Nat → List (Nat × Nat) → Nat
  | m, [] => m
  | m, (a, b) :: r => nx (m + a + b + 2) r
theorem nx_app (L : List (Nat × Nat)) (a b : Nat) : ∀ m, nx m (L ++ [(a, b)]) = nx m L + a + b + 2 := by
  induction L with
  | nil => intro m; rfl
  | cons x r ih => obtain ⟨c, d⟩ := x; intro m; exact ih _
theorem nx_le (L : List (Nat × Nat)) : ∀ m, m ≤ nx m L := by
  induction L with
  | nil => intro m; exact Nat.le_refl _
  | cons x r ih => obtain ⟨c, d⟩ := x; intro m; have := ih (m + c + d + 2); rw [nx]; omega
theorem okP_app (L : List (Nat × Nat)) (a b : Nat) : ∀ m, okP m L → nx m L + a + b < 1024 → okP m (L ++ [(a, b)]) := by
  induction L with
  | nil => intro m _ h; exact ⟨h, trivial⟩
  | cons x r ih => obtain ⟨c, d⟩ := x; intro m h h2; exact ⟨h.1, ih _ h.2 h2⟩
theorem setP_app (L : List (Nat × Nat)) (a b j : Nat) : ∀ m, setP m (L ++ [(a, b)]) j = (setP m L j || decide (nx m L + a ≤ j ∧ j ≤ nx m L + a + b)) := by
  induction L with
  | nil => intro m; simp only [List.nil_append, setP, nx, Bool.or_false, Bool.false_or]; exact decide_eq_decide.2 Iff.rfl
  | cons x r ih =>
    obtain ⟨c, d⟩ := x
    intro m
    show (decide _ || setP _ (r ++ [(a, b)]) j) = _
    rw [ih, setP, nx, Bool.or_assoc]
theorem setP_hi (L : List (Nat × Nat)) (j : Nat) : ∀ m, nx m L ≤ j → setP m L j = false := by
  induction L with
  | nil => intro m _; rfl
  | cons x r ih =>
    obtain ⟨c, d⟩ := x
    intro m h
    rw [nx] at h
    have := nx_le r (m + c + d + 2)
    rw [setP, ih _ h, decide_eq_false (by omega)]; rfl
theorem flatI_b (L : List (Nat × Nat)) : ∀ m, okP m L → ∀ x ∈ flatI L, 0 ≤ x ∧ x ≤ 1024 := by
  induction L with
  | nil => intro m _ x h; cases h
  | cons y r ih =>
    obtain ⟨c, d⟩ := y
    intro m h x hx
    have h1 := h.1
    simp only [flatI, List.mem_cons] at hx
    rcases hx with rfl | rfl | hx
    · omega
    · omega
    · exact ih _ h.2 x hx
/-- what holds when the document's Set looks at n. -/
structure DocS (p : Nat → Bool) (L : List (Nat × Nat)) (m free run n : Nat) : Prop where
  ok : okP 0 L
  nxt : m = nx 0 L
  at' : n = m + free + run
  le : n ≤ 1025
  all : ∀ j, j < m → j < 1024 → p j = setP 0 L j
  fr : ∀ j, m ≤ j → j < m + free → j < 1024 → p j = false
  rn : ∀ j, m + free ≤ j → j < n → j < 1024 ∧ p j = true
  many : 2 * L.length ≤ m
theorem DocS.start (p : Nat → Bool) : DocS p [] 0 0 0 0 := ⟨trivial, rfl, rfl, by omega, fun j h => absurd h (by omega), fun j _ h => absurd h (by omega), fun j _ h => absurd h (by omega), by simp⟩
section
variable {p : Nat → Bool} {L : List (Nat × Nat)} {m free run n : Nat}
theorem DocS.yes (h : DocS p L m free run n) (hn : n < 1024) (hp : p n = true) : DocS p L m free (run + 1) (n + 1) :=
  ⟨h.ok, h.nxt, by have := h.at'; omega, by omega, h.all, h.fr, fun j h1 h2 => by
    by_cases e : j = n
    · subst e; exact ⟨hn, hp⟩
    · exact h.rn j h1 (by omega), h.many⟩
theorem DocS.no (h : DocS p L m free 0 n) (hn : n ≤ 1024) (hp : n < 1024 → p n = false) : DocS p L m (free + 1) 0 (n + 1) :=
  ⟨h.ok, h.nxt, by have := h.at'; omega, by omega, h.all, fun j h1 h2 h3 => by
    have := h.at'
    by_cases e : j = n
    · subst e; exact hp h3
    · exact h.fr j h1 (by omega) h3, fun j h1 h2 => by have := h.at'; omega, h.many⟩
theorem DocS.row (h : DocS p L m free (run + 1) n) (hp : n < 1024 → p n = false) : DocS p (L ++ [(free, run)]) (n + 1) 0 0 (n + 1) ∧ n ≤ 1024 := by
  have ha := h.at'
  have hlast := (h.rn (n - 1) (by omega) (by omega)).1
  refine ⟨⟨okP_app L free run 0 h.ok (by rw [← h.nxt]; omega), by rw [nx_app, ← h.nxt]; omega, rfl, by omega, fun j h1 h2 => ?_, fun j h1 h2 => absurd h2 (by omega), fun j h1 h2 => absurd h2 (by omega), by have := h.many; simp; omega⟩, by omega⟩
  rw [setP_app, ← h.nxt]
  by_cases c1 : j < m
  · rw [h.all j c1 h2, decide_eq_false (by omega), Bool.or_false]
  · rw [setP_hi L j 0 (by rw [← h.nxt]; omega), Bool.false_or]
    by_cases c2 : j < m + free
    · rw [h.fr j (by omega) c2 h2, decide_eq_false (by omega)]
    · by_cases c3 : j < n
      · rw [(h.rn j (by omega) c3).2, decide_eq_true (by omega)]
      · obtain rfl : j = n := by omega
        rw [hp h2, decide_eq_false (by omega)]
theorem DocS.done (h : DocS p L m free run 1025) : rowsOf p = (L.length : Int) :: flatI L := by
  have ha := h.at'
  have hr : run = 0 := by
    by_cases e : run = 0
    · exact e
    · have := (h.rn 1024 (by omega) (by omega)).1; omega
  refine rowsOf_L (rowsT_of p L h.ok fun j hj => ?_)
  by_cases c1 : j < m
  · exact h.all j c1 hj
  · rw [setP_hi L j 0 (by rw [← h.nxt]; omega), h.fr j (by omega) (by omega) hj]
end
/-- numbers that may be read. -/
def IntsB (w : World) (A : Option Addr) (l : List Int) : Prop := ∀ i (hi : i < l.length), ∃ b off, A = some ⟨b, off, none⟩ ∧ b < w.heap.size ∧ w.cell? ⟨b, off + i, none⟩ = some (.int .i64 l[i])
theorem own_intsB {B : Nat} {w : World} {v : Value} {l : List Int} (h : OwI B w v l) : ∃ A cap, v = .slice A l.length cap ∧ IntsB w A l := by
  have h' := h
  rcases h.2 with ⟨rfl, hn⟩ | ⟨g, cap, cur, rfl, hg, hh, hnc, _⟩
  · exact ⟨none, 0, by rw [hn], fun i hi => absurd hi (by omega)⟩
  · refine ⟨some ⟨g, 0, none⟩, cap, rfl, fun i hi => ⟨g, 0, rfl, (h'.lt g rfl).2, ?_⟩⟩
    have := h'.cells (g := g) rfl i (.int .i64 l[i]) (by simp [hi])
    have hadd : (⟨g, 0, none⟩ : Addr).add i = ⟨g, 0 + i, none⟩ := by unfold Addr.add; split <;> simp_all
    rw [← hadd]; exact this
set_option maxHeartbeats 16000000 in
theorem refSet_any (p : Nat → Bool) (w : World) : Calls Tryd.prog 14 #[.agg (cellsOf p)] w fun e w' => ∃ v, e = .returned v ∧ OwB w.heap.size w' v (intsB (rowsOf p)) ∧ Below w.heap.size w w' := by
  have hbl : Below w.heap.size w (w.alloc (.cells (cellsOf p) 33)) := (Below.refl _ _).alloc (Nat.le_refl _) _
  have hg : (w.alloc (.cells (cellsOf p) 33)).heap[w.heap.size]? = some (.cells (cellsOf p) 33 (0, 0)) := heap_alloc_new _ _
  have hs : (w.alloc (.cells (cellsOf p) 33)).heap.size = w.heap.size + 1 := by simp
  obtain ⟨i0, hi0, hz0, hz1, hz2⟩ := info_parts infoInt
  go_enter Tryd.func14, Tryd.ntmps14
  go_upto_region 1 with fail
  generalize w.alloc (.cells (cellsOf p) 33) = W at *
  obtain ⟨B, hB⟩ : ∃ B, w.heap.size = B := ⟨_, rfl⟩
  have HBB := Lib.hid hB
  rw [hB] at hbl hg hs ⊢
  have HB := Lib.hid hbl; have HG := Lib.hid hg; have HS := Lib.hid hs
  clear hB hbl hg hs
  go_wp2_with fail
  go_loopw [3, 4, 5, 6, 7] (fun a fv rv cv nv wr => ∃ (L : List (Nat × Nat)) (m free run n : Nat), fv = .int .i64 free ∧ rv = .int .i64 run ∧ cv = .int .i64 L.length ∧ nv = .int .i64 n ∧ DocS p L m free run n ∧ OwI (B + 1) wr a (flatI L) ∧ Below (B + 1) W wr) (fun _ _ _ _ nv _ => 1025 - (intOf nv).toNat)
  case atStart => exact ⟨[], 0, 0, 0, 0, rfl, rfl, rfl, rfl, DocS.start p, World.ownsRow_nil _ _ _ _, Below.refl _ _⟩
  case round =>
    obtain ⟨L, m, free, run, n, rfl, rfl, rfl, rfl, hD, ho, hb⟩ := hrel
    have HD := Lib.hid hD; have HO := Lib.hid ho; have HBR := Lib.hid hb
    clear hD ho hb
    have HSR : Hid (B + 1 ≤ wr.heap.size) := by have := HBR.out.size; have := HS.out; show _ ≤ _; omega
    have hfr : free ≤ n := by have := HD.out.at'; omega
    have hrn : run ≤ n := by have := HD.out.at'; omega
    have hLn : L.length ≤ 600 := by have := HD.out.at'; have := HD.out.le; have := HD.out.many; omega
    by_cases hlt : n ≤ 1024
    · have n1 : (n : Int) ≤ 1024 := by omega
      have HQ : Hid (wr.heap[B]? = some (.cells (cellsOf p) 33 (0, 0))) := (HBR.out.block B (by omega)).trans HG.out
      have HH := Lib.hid (refHas_any p (n : Int) wr)
      by_cases hp : n < 1024 ∧ p n = true
      · rw [hasP_yes p n hp.1, hp.2] at HH
        have HD2 := Lib.hid (HD.out.yes hp.1 hp.2)
        clear hp
        go_wp2_with (first | (refine ld_set rfl _ rfl _ rfl _ HQ.out ?_) | (go_at_call 34; (with_reducible refine HH.out.mono ?_); rintro e w2 ⟨rfl, h2⟩; have H2 := Lib.hid h2; clear h2))
        go_roundw
        case rel => exact ⟨L, m, free, run + 1, n + 1, rfl, by go_num, rfl, by go_num, HD2.out, own_on HO.out H2.out, HBR.out.trans (H2.out.mono HSR.out)⟩
        case measure => have := HD2.out.le; simp [intOf]; omega
      · have hno : hasP p (n : Int) = false := by
          by_cases c : n < 1024
          · rw [hasP_yes p n c]; cases hq : p n with
            | false => rfl
            | true => exact absurd ⟨c, hq⟩ hp
          · exact hasP_no p _ (by omega)
        have hpn : n < 1024 → p n = false := fun c => by
          cases hq : p n with
          | false => rfl
          | true => exact absurd ⟨c, hq⟩ hp
        rw [hno] at HH
        clear hno hp
        by_cases hr : run = 0
        · subst hr
          have HD2 := Lib.hid (HD.out.no hlt hpn)
          clear hpn
          go_wp2_with (first | (refine ld_set rfl _ rfl _ rfl _ HQ.out ?_) | (go_at_call 34; (with_reducible refine HH.out.mono ?_); rintro e w2 ⟨rfl, h2⟩; have H2 := Lib.hid h2; clear h2))
          go_roundw
          case rel => exact ⟨L, m, free + 1, 0, n + 1, by go_num, rfl, rfl, by go_num, HD2.out, own_on HO.out H2.out, HBR.out.trans (H2.out.mono HSR.out)⟩
          case measure => have := HD2.out.le; simp [intOf]; omega
        · obtain ⟨run, rfl⟩ : ∃ r, run = r + 1 := ⟨run - 1, by omega⟩
          have HD2 := Lib.hid (HD.out.row hpn).1
          have r0 : (((run + 1 : Nat) : Int) == 0) = false := by simp; omega
          have HFL := Lib.hid (flatI_len L)
          clear hpn
          go_upto_region 12 with (first | (refine ld_set rfl _ rfl _ rfl _ HQ.out ?_) | (go_at_call 34; (with_reducible refine HH.out.mono ?_); rintro e w2 ⟨rfl, h2⟩; have H2 := Lib.hid h2; clear h2))
          have S2 : Hid (B + 1 ≤ w2.heap.size) := by have := H2.out.size; have := HSR.out; show _ ≤ _; omega
          have O2 : Hid (OwI (B + 1) w2 u3 (flatI L)) := own_on HO.out H2.out
          have BW2 : Hid (Below (B + 1) W w2) := HBR.out.trans (H2.out.mono HSR.out)
          go_upto_region 13 with (at_builtin; refine wpList_append_lies _ rfl (.tmp 24) (.tmp 28) 67 rfl (B + 1) 3 i0 (.int .i64 0) 1 8 Tryd.underlying67 hi0 hz0 hz1 hz2 rfl (by decide) _ _ _ rfl (O2.out.alloc _) ⟨w2.heap.size, 0, none⟩ 2 2 [.int .i64 (free : Int), .int .i64 (run : Int)] rfl rfl ?_ ?_ (by decide) ?_ ?_ ?_ (w2.heap.size + 1) ?_ ?_)
          · intro j u hu
            have hadd : (⟨w2.heap.size, 0, none⟩ : Addr).add j = ⟨w2.heap.size, j, none⟩ := by unfold Addr.add; split <;> simp_all
            rw [hadd, (Blk.new w2 _ _).cell]
            match j, hu with
            | 0, hu => exact hu
            | 1, hu => exact hu
          · intro u hu
            simp only [List.mem_cons, List.not_mem_nil, or_false] at hu
            rcases hu with rfl | rfl <;> rfl
          · have := HFL.out; unfold maxLen; omega
          · have := HFL.out; omega
          · have := S2.out; simp; omega
          · simp
          intro g4 cap4 w4 own4 gr4 hat4 hl4
          have B4 : Hid (But (fun k => B + 1 ≤ k) w2 w4) := ((But.refl (fun k => B + 1 ≤ k) w2).alloc _).grown gr4 fun k hk => .inl ((O2.out.lt k hk).1)
          have O4 : Hid (OwI (B + 1) w4 (.slice (some ⟨g4, 0, none⟩) ((flatI L).length + 2) cap4) (flatI (L ++ [(free, run)]))) := by
            have e1 : (flatI (L ++ [(free, run)])).length = (flatI L).length + 2 := by rw [flatI_app]; simp [flatI]
            show w4.ownsRow _ _ _ _ _ _
            rw [e1, flatI_app, List.map_append]
            exact own4
          clear own4 gr4 hat4 hl4
          have L4 := Lib.hid (B4.out.below (B := B + 1) S2.out fun k _ hk => hk)
          go_wp2_with fail
          go_roundw
          case rel => exact ⟨L ++ [(free, run)], n + 1, 0, 0, n + 1, rfl, rfl, by simp, by go_num, HD2.out, O4.out, BW2.out.trans L4.out⟩
          case measure => have := HD2.out.le; simp [intOf]; omega
    · obtain rfl : n = 1025 := by have := HD.out.le; omega
      have HR := Lib.hid HD.out.done
      have HFL := Lib.hid (flatI_len L)
      have HFB := Lib.hid (flatI_b L 0 HD.out.ok)
      obtain ⟨A, cap, rfl, hA⟩ := own_intsB HO.out
      have HA := Lib.hid hA
      have hlb : B64 (L.length : Int) := by unfold B64; omega
      have HC := Lib.hid (refInt_any (L.length : Int) hlb wr)
      clear hA hlb
      go_upto_region 17 with (go_at_call 10; (with_reducible refine HC.out.mono ?_); rintro e w3 ⟨v3, rfl, h3, hb3⟩; have H3 := Lib.hid h3; have HB3 := Lib.hid hb3; clear h3 hb3)
      obtain ⟨w0, hw0⟩ : ∃ x, x = wr := ⟨_, rfl⟩
      subst hw0
      go_wp2_with fail
      go_loopw [8, 36] (fun a iv wr => ∃ i : Nat, iv = .int .i64 i ∧ i ≤ (flatI L).length ∧ OwB w0.heap.size wr a (intsB ((L.length : Int) :: (flatI L).take i)) ∧ Below w0.heap.size w0 wr) (fun _ iv _ => (flatI L).length - (intOf iv).toNat)
      case atStart => exact ⟨0, rfl, Nat.zero_le _, by simpa [intsB] using H3.out, HB3.out⟩
      case round =>
        obtain ⟨i, rfl, hi, ho, hb⟩ := hrel
        have HO2 := Lib.hid ho; have HBQ := Lib.hid hb
        clear ho hb
        by_cases hlt2 : i < (flatI L).length
        · obtain ⟨b, off, rfl, hblt, hcell⟩ := HA.out i hlt2
          have c0 := (HBQ.out.cell (p := ⟨b, off + i, none⟩) hblt).trans hcell
          have hx64 : B64 (flatI L)[i] := by have := HFB.out _ (List.getElem_mem hlt2); unfold B64; omega
          have HE : Hid (intsB ((L.length : Int) :: (flatI L).take (i + 1)) = intsB ((L.length : Int) :: (flatI L).take i) ++ intB (flatI L)[i]) := by
            show _ = _
            rw [List.take_succ_eq_append_getElem hlt2, ← List.cons_append, intsB_app]; simp [intsB]
          have HLN : Hid ((intsB ((L.length : Int) :: (flatI L).take i)).length ≤ 10 * (((L.length : Int) :: (flatI L).take i)).length) := intsB_len _ fun y hy => by
            rcases List.mem_cons.1 hy with rfl | hy
            · unfold B64; omega
            · have := HFB.out _ (List.mem_of_mem_take hy); unfold B64; omega
          have HTL : Hid (((L.length : Int) :: (flatI L).take i).length ≤ 1300) := by have := HFL.out; show _ ≤ _; rw [List.length_cons, List.length_take]; omega
          generalize (flatI L)[i] = y at *
          have HRI := Lib.hid (refInt_any y hx64 wr)
          have HLY := Lib.hid (intB_len hx64)
          have HPY := Lib.hid (intB_pos y)
          clear hx64 hcell
          have i2 : (i : Int) < ((flatI L).length : Int) := by omega
          have i3 : (flatI L).length ≤ 1300 := by have := HFL.out; omega
          go_wp2_with (first
            | (go_at_call 10; (with_reducible refine HRI.out.mono ?_); rintro e w4 ⟨v4, rfl, h4, hb4⟩; have H4 := Lib.hid h4; have HB4 := Lib.hid hb4; clear h4 hb4)
            | (at_builtin; refine app_bs rfl (.tmp 40) (.tmp 42) rfl w0.heap.size wr.heap.size _ v4 (intsB ((L.length : Int) :: (flatI L).take i)) (intB y) rfl (own_on HO2.out HB4.out) rfl H4.out HPY.out (by have := HLN.out; have := HTL.out; have := HLY.out; omega) (Nat.le_trans HBQ.out.size HB4.out.size) ?_; intro v5 w5 h5 hb5; have H5 := Lib.hid h5; have HB5 := Lib.hid hb5; clear h5 hb5))
          go_roundw
          case rel => exact ⟨i + 1, by go_num, by omega, by rw [HE.out]; exact H5.out, HBQ.out.trans ((HB4.out.mono HBQ.out.size).trans HB5.out)⟩
          case measure => simp [intOf]; omega
        · obtain rfl : i = (flatI L).length := by omega
          go_wp2_with fail
          go_ret
          have hqB : w.heap.size ≤ w0.heap.size := by have := HSR.out; rw [HBB.out]; omega
          exact ⟨_, rfl, own_mono (by have := HO2.out; rw [List.take_length, ← HR.out] at this; exact this) hqB, (by rw [HBB.out]; exact HB.out.trans ((HBR.out.mono (Nat.le_succ B)).trans (HBQ.out.mono (by have := HSR.out; omega))))⟩
end Go.Proofs.YtchhenpijbecaaaDoor
