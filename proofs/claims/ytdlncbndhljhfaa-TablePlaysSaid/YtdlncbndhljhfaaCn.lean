/- New: rows of none, for nodes in no row. -/
import Derived.Test.YtdlncbndhljhfaaCw
import Derived.Test.YtdlncbndhljhfaaRu
import Derived.Maps.AppendAt
import Derived.RegionCalls
import Derived.Deep.AppendLies
import Derived.Deep.RegionWith
namespace Go.Proofs.Ytdlncbndhljhfaa
open Go.RowKit

/-- The rows' own links. -/
def owns (n : Nat) : Nat → List Value
  | 0 => []
  | k + 1 => owns n k ++ [.int .i64 k, .int .i64 ((n + k : Nat) : Int), .int .i64 ((n + k : Nat) : Int)]
theorem owns_length (n : Nat) : ∀ k, (owns n k).length = k * 3
  | 0 => rfl
  | k + 1 => by simp [owns, owns_length n k]; omega
theorem owns_get (n : Nat) : ∀ k i, i < k → (owns n k)[i * 3]? = some (.int .i64 i) ∧ (owns n k)[i * 3 + 1]? = some (.int .i64 ((n + i : Nat) : Int)) ∧ (owns n k)[i * 3 + 2]? = some (.int .i64 ((n + i : Nat) : Int))
  | 0, i, h => absurd h (by omega)
  | k + 1, i, h => by
    unfold owns
    by_cases e : i = k
    · subst e
      refine ⟨?_, ?_, ?_⟩ <;> (rw [List.getElem?_append_right (by rw [owns_length]; omega), owns_length])
      · simp
      · rw [show i * 3 + 1 - i * 3 = 1 by omega]; rfl
      · rw [show i * 3 + 2 - i * 3 = 2 by omega]; rfl
    · obtain ⟨h0, h1, h2⟩ := owns_get n k i (by omega)
      refine ⟨?_, ?_, ?_⟩ <;> rw [List.getElem?_append_left (by rw [owns_length]; omega)] <;> assumption
theorem own_far {W : World} {base : Nat} {e : TypeId} {size g n c : Nat} {xs : List Value} (h : W.ownsRow base e size (.slice (some ⟨g, 0, none⟩) n c) n xs) {p : Addr} (hp : g ≠ p.block) (u : Value) : (W.setCell p u).ownsRow base e size (.slice (some ⟨g, 0, none⟩) n c) n xs := by
  obtain ⟨hl, h0 | ⟨g2, cap2, cur, hv, hb, hh, r⟩⟩ := h
  · simp at h0
  · cases hv
    exact ⟨hl, .inr ⟨_, _, cur, rfl, hb, (heap_setCell_other W p g u hp).trans hh, r⟩⟩
/-- The links, while New makes them. -/
def Mk (w : World) (b gn n m k : Nat) (W : World) : Prop :=
  ∃ g cp, W.ownsRow w.heap.size 117 3 (.slice (some ⟨g, 0, none⟩) (n + k) cp) (n + k) (pats (n * 3) ++ owns n k) ∧ Blk W b 119 #[.slice (some ⟨g, 0, none⟩) (n + k) cp, .int .i64 n, .slice (some ⟨gn, 0, none⟩) m m] ∧
    (∃ Z : List Value, Blk W gn 3 Z.toArray ∧ Z.length = m ∧ ∀ i, i < m → Z[i]? = some (.int .i64 0)) ∧ g ≠ b ∧ g ≠ gn ∧ gn ≠ b ∧ w.heap.size ≤ b ∧ w.heap.size ≤ gn ∧ w.heap.size ≤ g ∧ But Nob w W
theorem rep_owns {w W : World} {g n : Nat} (h : Blk W g 117 (pats (n * 3)).toArray) (hg : w.heap.size ≤ g) (hn : n ≤ 4096) : W.ownsRow w.heap.size 117 3 (.slice (some ⟨g, 0, none⟩) (n + 0) n) (n + 0) (pats (n * 3) ++ owns n 0) := by
  unfold owns
  rw [List.append_nil, Nat.add_zero]
  exact ⟨pats_length _, .inr ⟨g, n, (pats (n * 3)).toArray, rfl, hg, h, Nat.le_refl _, by unfold maxLen; omega, by simp [pats_length], List.take_of_length_le (by show (pats (n * 3)).length ≤ _; rw [pats_length]; exact Nat.le_refl _)⟩⟩
theorem Blk.grown_ {w w' : World} {g : Nat} {t : TypeId} {cs : Array Value} {row : Option Nat} (h : Blk w g t cs) (hg : w.grownBy w' row) (hr : some g ≠ row) : Blk w' g t cs := (hg.block g h.lt hr).trans h
theorem Blk.drew_ {w : World} {g : Nat} {t : TypeId} {cs : Array Value} (h : Blk w g t cs) : Blk w.drew g t cs := h
theorem make_zeros (m : Nat) (hm : m ≤ 4096) : ∃ Z : List Value, (∀ W : World, (Instr.makeSlice 54 (.int .i64 m) (.int .i64 m)).run Try.prog W = .ok (.slice (some ⟨W.heap.size, 0, none⟩) m m) (W.alloc (.cells Z.toArray 3))) ∧ Z.length = m ∧ ∀ i, i < m → Z[i]? = some (.int .i64 0) := by
  obtain ⟨i0, hi0, hz0, hz1, hz2⟩ := info_parts infoInt
  refine ⟨List.replicate m (.int .i64 0), fun W => ?_, by simp, fun i hi => by rw [List.getElem?_replicate, if_pos hi]⟩
  have := run_makeSlice (P := Try.prog) W 54 3 i0 (.int .i64 0) Try.underlying54 hi0 hz0 .i64 .i64 m m (by omega) (by omega) (by rw [hz1]; simp; omega) (by rw [hz2]; omega) (by omega)
  simp only [Int.toNat_natCast, hz1, Nat.mul_one] at this
  have hc : madeCells (Value.int IntKind.i64 0).cells m = (List.replicate m (Value.int .i64 0)).toArray := Array.toList_inj.1 (by rw [show (Value.int IntKind.i64 0).cells = #[.int .i64 0] from rfl, toList_madeCells_one])
  rw [hc] at this
  exact this
set_option maxRecDepth 100000 in
set_option maxHeartbeats 4000000 in
theorem newc_raw (nodes lists : Int) (n m : Nat) (hn : min (max nodes 0) 4096 = (n : Int)) (hm : min (max lists 0) 4096 = (m : Int)) (w : World) :
    Calls Try.prog 42 #[.int .i64 nodes, .int .i64 lists] w fun e w' => ∃ b gn, e = .returned (.pointer (some ⟨b, 0, none⟩)) ∧ Mk w b gn n m m w' := by
  have HN := Lib.hid hn; have HM := Lib.hid hm
  have hn4 : n ≤ 4096 := by omega
  have hm4 : m ≤ 4096 := by omega
  go_enter Try.func42, Try.ntmps42
  go_upto_region 1 with fail
  go_cut [0, 1] (fun p q wx => p = .int .i64 n ∧ q = .int .i64 m ∧ wx = w)
  case first =>
    clear hn hm
    go_wp2_with fail
    all_goals
      go_meet
      have h1 := HN.out; have h2 := HM.out
      refine ⟨?_, ?_, rfl⟩
      · first | rfl | (congr 1; omega) | (congr 1)
      · first | rfl | (congr 1; omega) | (congr 1)
  case rest =>
    obtain ⟨rfl, rfl, hwx⟩ := hcut
    obtain rfl := hwx.symm
    clear hn hm
    go_upto_region 2 with fail
    go_cut [5] (fun t wx => ∃ b gn, t = .pointer (some ⟨b, 0, none⟩) ∧ Mk w b gn n m 0 wx)
    case first =>
      obtain ⟨Z, hmk, hZ1, hZ2⟩ := make_zeros m hm4
      have HZ : Hid (Z.length = m ∧ ∀ i, i < m → Z[i]? = some (.int .i64 0)) := ⟨hZ1, hZ2⟩
      clear hZ1 hZ2
      have HC : Hid (Blk ((w.alloc (.cells Z.toArray 3)).alloc (.cells #[.int .i64 (-1), .int .i64 0, .int .i64 0] 117)).drew (w.heap.size + 1) 117 #[.int .i64 (-1), .int .i64 0, .int .i64 0]) := by
        have := Blk.new (w.alloc (.cells Z.toArray 3)) 117 #[.int .i64 (-1), .int .i64 0, .int .i64 0]
        rw [World.size_alloc] at this; exact this
      go_region_with ((go_at_call 77; refine (repeat_any _ _ n _ hn4 (by first | exact (Blk.new _ _ _).drew_ | exact ((Blk.new _ _ _).alloc _).drew_ | exact HC.out)).mono ?_; rintro e W1 ⟨g, rfl, hg, hb, hG⟩; have Hg := Lib.hid hg; have HB := Lib.hid hb; have HG := Lib.hid hG; clear hg hb hG))
      all_goals (go_wp2_with fail; go_meet)
      · have hg' : w.heap.size + 1 ≤ g := by have h : (w.alloc (.cells #[.int .i64 (-1), .int .i64 0, .int .i64 0] 117)).heap.size ≤ g := Hg.out; simpa using h
        have hgl := HB.out.lt
        have hG : But Nob w W1 := ((But.refl Nob w).alloc _).drew.trans HG.out
        have hl := (Blk.new W1 3 Z.toArray).alloc (.cells #[.slice (some ⟨g, 0, none⟩) n n, .int .i64 n, .slice (some ⟨W1.heap.size, 0, none⟩) m m] 119)
        have hs := Blk.new (W1.alloc (.cells Z.toArray 3)) 119 #[.slice (some ⟨g, 0, none⟩) (n + 0) n, .int .i64 n, .slice (some ⟨W1.heap.size, 0, none⟩) m m]
        rw [World.size_alloc] at hs
        exact ⟨_, _, rfl, g, n, rep_owns ((HB.out.alloc _).alloc _) (by omega) hn4, hs, ⟨Z, hl, HZ.out⟩, by omega, by omega, by omega, by have := hG.size; omega, hG.size, by omega, (hG.alloc _).alloc _⟩
      · have hg' : w.heap.size + 2 ≤ g := by have h : ((w.alloc (.cells #[.int .i64 (-1), .int .i64 0, .int .i64 0] 117)).alloc (.cells Z.toArray 3)).heap.size ≤ g := Hg.out; simpa using h
        have hgl := HB.out.lt
        have hG : But Nob w W1 := (((But.refl Nob w).alloc _).alloc _).drew.trans HG.out
        have hl0 := (Blk.new (w.alloc (.cells #[.int .i64 (-1), .int .i64 0, .int .i64 0] 117)) 3 Z.toArray).drew_
        rw [World.size_alloc] at hl0
        have hl := (hl0.but HG.out id).alloc (.cells #[.slice (some ⟨g, 0, none⟩) n n, .int .i64 n, .slice (some ⟨w.heap.size + 1, 0, none⟩) m m] 119)
        have hs := Blk.new W1 119 #[.slice (some ⟨g, 0, none⟩) (n + 0) n, .int .i64 n, .slice (some ⟨w.heap.size + 1, 0, none⟩) m m]
        exact ⟨_, _, rfl, g, n, rep_owns (HB.out.alloc _) (by omega) hn4, hs, ⟨Z, hl, HZ.out⟩, by omega, by omega, by omega, hG.size, by omega, by omega, hG.alloc _⟩
      · have hg' : w.heap.size + 2 ≤ g := by have h : ((w.alloc (.cells Z.toArray 3)).alloc (.cells #[.int .i64 (-1), .int .i64 0, .int .i64 0] 117)).heap.size ≤ g := Hg.out; simpa using h
        have hgl := HB.out.lt
        have hG : But Nob w W1 := (((But.refl Nob w).alloc _).alloc _).drew.trans HG.out
        have hl0 := ((Blk.new w 3 Z.toArray).alloc (.cells #[.int .i64 (-1), .int .i64 0, .int .i64 0] 117)).drew_
        have hl := (hl0.but HG.out id).alloc (.cells #[.slice (some ⟨g, 0, none⟩) n n, .int .i64 n, .slice (some ⟨w.heap.size, 0, none⟩) m m] 119)
        have hs := Blk.new W1 119 #[.slice (some ⟨g, 0, none⟩) (n + 0) n, .int .i64 n, .slice (some ⟨w.heap.size, 0, none⟩) m m]
        exact ⟨_, _, rfl, g, n, rep_owns (HB.out.alloc _) (by omega) hn4, hs, ⟨Z, hl, HZ.out⟩, by omega, by omega, by omega, hG.size, Nat.le_refl _, by omega, hG.alloc _⟩
    case rest =>
      obtain ⟨b, gn, rfl, hM⟩ := hcut
      rename World => w1
      have HMK := Lib.hid hM; clear hM
      obtain ⟨i0, hi0, hz0, hz1, hz2⟩ := info_parts infoLink
      go_wp2_with fail
      go_loopw [24, 6, 7] (fun t _ _ wr => ∃ k : Nat, k ≤ m ∧ t = .int .i64 k ∧ Mk w b gn n m k wr) (fun t _ _ _ => m - (intOf t).toNat)
      case atStart => exact ⟨0, Nat.zero_le _, rfl, HMK.out⟩
      case round =>
        obtain ⟨k, hk, rfl, hM⟩ := hrel
        by_cases hlt : k < m
        · obtain ⟨g, cp, hown, hst, hlen, e1, e2, e3, l1, l2, l3, hG⟩ := hM
          have c0 := hst.cell 0; have c1 := hst.cell 1
          simp only [List.getElem?_toArray, List.getElem?_cons_zero, List.getElem?_cons_succ] at c0 c1
          have hf0 := hst.free 0
          have kI0 : (0 : Int) ≤ (k : Int) := by omega
          have kI1 : (k : Int) < (m : Int) := by omega
          have how := own_at (b := b) (n := n) (w := wr) k (by omega) hn4 c1
          obtain ⟨o, ho⟩ : ∃ o, o = n + k := ⟨_, rfl⟩
          rw [← ho] at how
          have HOW := Lib.hid how; have HO := Lib.hid ho
          have HOWN := Lib.hid (hown.alloc (.cells #[.int .i64 k, .int .i64 o, .int .i64 o] 117))
          have HST := Lib.hid (hst.alloc (.cells #[.int .i64 k, .int .i64 o, .int .i64 o] 117))
          have HLEN : Hid (∃ Z : List Value, Blk (wr.alloc (.cells #[.int .i64 k, .int .i64 o, .int .i64 o] 117)) gn 3 Z.toArray ∧ Z.length = m ∧ ∀ i, i < m → Z[i]? = some (.int .i64 0)) := let ⟨Z, z1, z2⟩ := hlen; ⟨Z, z1.alloc _, z2⟩
          have HGG := Lib.hid (hG.alloc (.cells #[.int .i64 k, .int .i64 o, .int .i64 o] 117))
          have hbl := hst.lt
          have hgl : gn < wr.heap.size := let ⟨Z, z1, _⟩ := hlen; z1.lt
          have hws := hG.size
          have hnew : ∀ j u, ([Value.int .i64 k, .int .i64 o, .int .i64 o])[j]? = some u → (wr.alloc (.cells #[.int .i64 k, .int .i64 o, .int .i64 o] 117)).cell? ((⟨wr.heap.size, 0, none⟩ : Addr).add j) = some u := fun j u hu => by
            rw [show (⟨wr.heap.size, 0, none⟩ : Addr).add j = ⟨wr.heap.size, j, none⟩ by unfold Addr.add; split <;> simp_all, (Blk.new wr 117 _).cell]
            simpa using hu
          have HNEW := Lib.hid hnew
          clear how ho hown hst hlen hG hnew
          go_wp2_with (first
            | (go_at_call 78; (with_reducible refine HOW.out.mono ?_); rintro e wq ⟨rfl, rfl⟩)
            | (at_builtin; refine wpList_append_own_at _ rfl (.tmp 34) (.tmp 39) 114 rfl w.heap.size 117 i0 (.agg #[.int .i64 0, .int .i64 0, .int .i64 0]) 3 24 Try.underlying114 hi0 hz0 hz1 hz2 rfl (by decide) (.slice (some ⟨g, 0, none⟩) (n + k) cp) (n + k) (pats (n * 3) ++ owns n k) rfl HOWN.out ⟨wr.heap.size, 0, none⟩ 1 1 [.int .i64 k, .int .i64 o, .int .i64 o] rfl rfl HNEW.out (by intro u hu; simp at hu; rcases hu with rfl | rfl <;> rfl) (by unfold maxLen; omega) (by omega) (by simp; omega) ?_
               intro v2 w2 own2 gr2 _ ob2
               obtain ⟨g', cp', hv2, hg'1, hg'2⟩ := own2.form (by omega)
               subst hv2
               have hst2 := HST.out.grown_ gr2 (by simp [Value.ownBlock]; exact fun e => e1 e.symm)
               have c0' := hst2.cell 0
               have f0' := hst2.free 0
               simp only [List.getElem?_toArray, List.getElem?_cons_zero] at c0'
               have HO2 := Lib.hid own2; have HST2 := Lib.hid hst2; have HGR := Lib.hid gr2; have HOB := Lib.hid ob2
               clear own2 hst2 gr2 ob2 c0 c1 hf0))
          go_ways
          go_roundw
          case rel =>
            have ho := HO.out
            subst ho
            have h := HOB.out
            simp only [Value.ownBlock, Option.some.injEq, World.size_alloc] at h
            have hgb : g' ≠ b := by rcases h with h | h <;> omega
            have hgg : g' ≠ gn := by rcases h with h | h <;> omega
            have h1 := own_far HO2.out (p := ⟨b, 0, none⟩) hgb (.slice (some ⟨g', 0, none⟩) (n + k + 1) cp')
            rw [List.append_assoc] at h1
            have h2 := HST2.out.set_ 0 (.slice (some ⟨g', 0, none⟩) (n + k + 1) cp')
            obtain ⟨Z, z1, z2⟩ := HLEN.out
            have h3 := (z1.grown_ HGR.out (by simp [Value.ownBlock]; exact fun e => e2 e.symm)).far (p := ⟨b, 0, none⟩) e3 (.slice (some ⟨g', 0, none⟩) (n + k + 1) cp')
            have h4 := (HGG.out.grown HGR.out (fun j hj => by simp [Value.ownBlock] at hj; exact .inr (by omega))).set ⟨b, 0, none⟩ (.slice (some ⟨g', 0, none⟩) (n + k + 1) cp') (.inr l1)
            exact ⟨k + 1, hlt, by go_num, g', cp', h1, h2, ⟨Z, h3, z2⟩, hgb, hgg, e3, l1, l2, hg'1, h4⟩
          case measure => simp [intOf]; omega
        · have hkm : k = m := by omega
          subst hkm
          have HMM := Lib.hid hM
          clear hM
          have t3 : ¬ (k : Int) < (k : Int) := by omega
          go_wp2_with fail
          go_ret
          exact ⟨b, rfl, gn, HMM.out⟩
end Go.Proofs.Ytdlncbndhljhfaa
