/- layer 31 (codec): add, Clip, PutInt. -/
import Derived.Test.YtchhenpijbecaaaDoorCd
import Derived.Deep.Cut
import Derived.Deep.CutRange
import Derived.Deep.CutBlock
import Derived.Deep.DeepCutAuto
import Derived.Deep.LoopGhost
namespace Go.Proofs.YtchhenpijbecaaaDoor
open Go.RowKit
set_option maxRecDepth 100000

theorem cell_new1 (w : World) (x : Value) (t : TypeId) : (w.alloc (.cells #[x] t)).cell? ⟨w.heap.size, 0, none⟩ = some x := (Blk.new w t #[x]).cell 0
theorem z_hi (u : Nat) : bits .or .u8 ((u : Int) % 256) 128 = ((UInt8.ofNat (u % 128 + 128)).toNat : Int) := by
  have h := or_128 (u % 256) (by omega)
  rw [u8_of (by omega), show u % 128 = u % 256 % 128 by omega, ← h]; simp
theorem z_lo (u : Nat) (h : u < 128) : ((u : Int) % 256) = ((UInt8.ofNat u).toNat : Int) := by
  rw [u8_of (by omega)]; omega
set_option maxHeartbeats 4000000 in
theorem add_any (B q c : Nat) (v : Value) (l : List UInt8) (xs : List Int) (w : World) (h : AppB B w v l) (hN : NumsB w q xs) (hx : ∀ x ∈ xs, B64 x) (hl : l.length + 10 * xs.length ≤ 1000000) (hB : B ≤ w.heap.size) :
    Calls Tryd.prog 25 #[v, .slice (some ⟨q, 0, none⟩) xs.length c] w fun e w' => ∃ v', e = .returned v' ∧ AppB B w' v' (l ++ intsB xs) ∧ Below B w w' ∧ (xs ≠ [] → OwB B w' v' (l ++ intsB xs)) := by
  obtain ⟨n, hn⟩ : ∃ n, xs.length = n := ⟨_, rfl⟩
  have HN := Lib.hid hN; have HLN := Lib.hid hn; have HX := Lib.hid hx; have HL := Lib.hid hl; have HB := Lib.hid hB; have HA := Lib.hid h
  have hnn : n ≤ 100000 := by omega
  rw [hn]
  clear hn hN hx hl hB h
  go_enter Tryd.func25, Tryd.ntmps25
  go_wp2_with fail
  go_loopw [0, 10] (fun a iv wr => ∃ k : Nat, iv = .int .i64 k ∧ k ≤ n ∧ (0 < k → OwB B wr a (l ++ intsB (xs.take k))) ∧ AppB B wr a (l ++ intsB (xs.take k)) ∧ Below B w wr ∧ NumsB wr q xs) (fun _ iv _ => n - (intOf iv).toNat)
  case atStart => exact ⟨0, rfl, Nat.zero_le _, fun h => absurd h (by omega), by simpa [intsB] using HA.out, Below.refl _ _, HN.out⟩
  case round =>
    obtain ⟨k, rfl, hk, ho, ha, hb, hnr⟩ := hrel
    have HO := Lib.hid ho; have HAR := Lib.hid ha; have HBR := Lib.hid hb; have HNR := Lib.hid hnr
    clear ho ha hb hnr
    by_cases hlt : k < n
    · have hlx : k < xs.length := by rw [HLN.out]; exact hlt
      have k1 : (k : Int) < (n : Int) := by omega
      have k0 : (0 : Int) ≤ (k : Int) := by omega
      have c0 := HNR.out.cell k hlx
      have hx64 := HX.out xs[k] (List.getElem_mem hlx)
      have hE : Hid (intsB (xs.take (k + 1)) = intsB (xs.take k) ++ intB xs[k]) := by
        show _ = _
        rw [List.take_succ_eq_append_getElem hlx, intsB_app]; simp [intsB]
      have HLT : Hid ((l ++ intsB (xs.take k)).length + 10 ≤ 1000000) := by
        have h1 := intsB_len (xs.take k) fun y hy => HX.out y (List.mem_of_mem_take hy)
        have := HL.out; have := HLN.out
        show _ ≤ _
        simp only [List.length_append, List.length_take] at h1 ⊢; omega
      generalize xs[k] = x at *
      have HU := Lib.hid (fold_lt hx64)
      have HF := Lib.hid (fold_any x hx64 wr)
      have HI : Hid (intB x = vb (foldN x)) := rfl
      clear hx64
      generalize foldN x = uu at *
      obtain ⟨S, hS⟩ : ∃ S, l ++ intsB (xs.take k) = S := ⟨_, rfl⟩
      have HSE := Lib.hid hS
      rw [hS] at HO HAR HLT
      clear hS
      go_upto_region 5 with (go_at_call 39; refine HF.out.mono ?_; rintro e w' ⟨rfl, rfl⟩)
      obtain ⟨wo, hwo⟩ : ∃ wo : World, wo = wr := ⟨_, rfl⟩
      have HWO := Lib.hid hwo
      clear hwo c0 HF
      go_loopw [0, 7] (fun a uv wq => ∃ (u : Nat) (acc : List UInt8), uv = .int .u64 u ∧ u < 18446744073709551616 ∧ acc ++ vb u = S ++ vb uu ∧ AppB B wq a acc ∧ Below B wo wq ∧ NumsB wq q xs) (fun _ uv _ => (intOf uv).toNat)
      case atStart => exact ⟨uu, S, rfl, HU.out, rfl, HAR.out, by rw [HWO.out]; exact Below.refl _ _, HNR.out⟩
      case round =>
        obtain ⟨u, acc, rfl, hu, hacc, ha, hb, hnq⟩ := hrel
        have HUU := Lib.hid hu; have HACC := Lib.hid hacc; have HA2 := Lib.hid ha; have HB2 := Lib.hid hb; have HN2 := Lib.hid hnq
        clear hu hacc ha hb hnq
        have HQL := Lib.hid (show acc.length + (vb u).length = S.length + (vb uu).length by rw [← List.length_append, ← List.length_append, HACC.out])
        have HSL := Lib.hid (vb_len10 HU.out)
        have HAL := Lib.hid (show acc.length ≤ 1000000 by have := HQL.out; have := HSL.out; have := HLT.out; omega)
        have hBq := Lib.hid (show Below B w wr by
          have e := HWO.out; subst e; exact HBR.out.trans HB2.out)
        have hBs := Lib.hid (show B ≤ wr.heap.size from Nat.le_trans HB.out hBq.out.size)
        by_cases h128 : 128 ≤ u
        · have t1 : ((u : Int) ≥ 128) := by omega
          have HZ := Lib.hid (z_hi u)
          go_wp2_with (at_builtin; refine app_b rfl (.tmp 20) (.tmp 24) rfl B q _ acc xs rfl (HA2.out.below ((Below.refl _ _).alloc (Nat.le_refl _) _) hBs.out) (HN2.out.but ((But.refl Nob _).alloc _) id) wr.heap.size 1 (UInt8.ofNat (u % 128 + 128)) _ HZ.out rfl (cell_new1 _ _ _) HAL.out (by have := hBs.out; simp; omega) ?_; intro v3 w3 o3 b3 n3; have O3 := Lib.hid o3; have B3 := Lib.hid b3; have N3 := Lib.hid n3; clear o3 b3 n3)
          go_roundw
          case rel =>
            refine ⟨u / 128, acc ++ [UInt8.ofNat (u % 128 + 128)], by go_num, by have := HUU.out; omega, ?_, .inl O3.out, HB2.out.trans (((Below.refl _ _).alloc (by have := hBs.out; omega) _).trans B3.out), N3.out⟩
            rw [← HACC.out, vb_hi (u := u) (by omega)]; simp
          case measure => simp [intOf]; omega
        · have t1 : ¬ ((u : Int) ≥ 128) := by omega
          have HZ := Lib.hid (show (u : Int) = ((UInt8.ofNat u).toNat : Int) by rw [u8_of (by omega)])
          have HV := Lib.hid (vb_lo (u := u) (by omega))
          go_wp2_with (at_builtin; refine app_b rfl (.tmp 26) (.tmp 29) rfl B q _ acc xs rfl (HA2.out.below ((Below.refl _ _).alloc (Nat.le_refl _) _) hBs.out) (HN2.out.but ((But.refl Nob _).alloc _) id) wr.heap.size 1 (UInt8.ofNat u) _ HZ.out rfl (cell_new1 _ _ _) HAL.out (by have := hBs.out; simp; omega) ?_; intro v3 w3 o3 b3 n3; have O3 := Lib.hid o3; have B3 := Lib.hid b3; have N3 := Lib.hid n3; clear o3 b3 n3)
          go_roundw
          case rel =>
            have e : acc ++ [UInt8.ofNat u] = S ++ vb uu := by rw [← HACC.out, HV.out]
            have o3 := O3.out
            rw [e] at o3
            have o4 : OwB B w3 v3 (l ++ intsB (xs.take (k + 1))) := by rw [hE.out, HI.out, ← List.append_assoc, HSE.out]; exact o3
            exact ⟨k + 1, by go_num, by omega, fun _ => o4, .inl o4, hBq.out.trans (((Below.refl _ _).alloc hBs.out _).trans B3.out), N3.out⟩
          case measure => simp [intOf]; omega
    · obtain rfl : k = n := by omega
      have tk : ¬ (k : Int) < (k : Int) := by omega
      go_wp2_with fail
      go_ret
      have e : xs.take k = xs := by rw [← HLN.out]; exact List.take_length
      have h1 := HAR.out; have h2 := HO.out
      rw [e] at h1 h2
      exact ⟨_, rfl, h1, HBR.out, fun hne => h2 (by rw [← HLN.out]; exact List.length_pos_iff.2 hne)⟩
theorem clip_any (A : Option Addr) (n cap : Nat) (hc : n ≤ cap) (w : World) : Calls Tryd.prog 26 #[.slice A n cap] w fun e w' => e = .returned (.slice A n n) ∧ w = w' := by
  go_enter Tryd.func26, Tryd.ntmps26
  go_wp2_with fail
  go_ret
  exact ⟨rfl, rfl⟩
theorem nums_new (w : World) (x : Int) : NumsB (w.alloc (.cells #[.int .i64 x] 3)) w.heap.size [x] :=
  ⟨_, Blk.new w _ _, fun i hi => by match i, hi with | 0, _ => rfl⟩
/-- PutInt: b, with the number's bytes behind it, in a row of the call's own. -/
theorem putInt_any (A : Option Addr) (l : List UInt8) (n cap : Nat) (hn : l.length = n) (hc : n ≤ cap) (hl : n ≤ 900000) (x : Int) (hx : B64 x) (w : World) (hA : BysIn w.heap.size w A l) :
    Calls Tryd.prog 7 #[.slice A n cap, .int .i64 x] w fun e w' => ∃ v, e = .returned v ∧ OwB w.heap.size w' v (l ++ intB x) ∧ Below w.heap.size w w' := by
  have hb : Below w.heap.size w (w.alloc (.cells #[.int .i64 x] 3)) := (Below.refl _ _).alloc (Nat.le_refl _) _
  have HB := Lib.hid hb
  have HX := Lib.hid (add_any w.heap.size w.heap.size 1 (.slice A n n) l [x] _ (.inr ⟨A, by rw [hn], hA.below hb⟩) (nums_new w x) (by intro y hy; simp at hy; subst hy; exact hx) (by simp; omega) hb.size)
  have HCL := Lib.hid (clip_any A n cap hc w)
  clear hb hA hx
  go_enter Tryd.func7, Tryd.ntmps7
  go_wp2_with (first
    | (go_at_call 26; refine HCL.out.mono ?_; rintro e w' ⟨rfl, rfl⟩)
    | (go_at_call 25; refine HX.out.mono ?_; rintro e w' ⟨v, rfl, -, hb2, ho⟩; have HO := Lib.hid (ho (by simp)); have HB2 := Lib.hid hb2; clear ho hb2))
  go_ret
  refine ⟨_, rfl, ?_, HB.out.trans HB2.out⟩
  have := HO.out
  simpa [intsB] using this
end Go.Proofs.YtchhenpijbecaaaDoor
