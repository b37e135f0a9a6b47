/- layer 31 (codec): the closure that takes numbers. -/
import Derived.Test.YtchhenpijbecaaaDoorCf
namespace Go.Proofs.YtchhenpijbecaaaDoor
open Go.RowKit
set_option maxRecDepth 100000

/-- numbers taken one behind the other, from any place on. -/
def takeZ (l : List UInt8) : Nat → Int → Option (List Int × Int)
  | 0, k => some ([], k)
  | n + 1, k => match getI l k with
    | none => none
    | some (x, m) => (takeZ l n (m : Int)).map fun p => (x :: p.1, p.2)
theorem getI_nat {l : List UInt8} {k : Nat} (h : k ≤ l.length) : getI l (k : Int) = getN l k := by
  unfold getI; rw [if_pos (by omega)]; rfl
theorem takeZ_nat (l : List UInt8) (n : Nat) : ∀ k : Nat, k ≤ l.length → takeZ l n (k : Int) = (takeN l n k).map fun p => (p.1, (p.2 : Int)) := by
  induction n with
  | zero => intro k _; rfl
  | succ n ih =>
    intro k hk
    rw [takeZ, takeN, getI_nat hk]
    match hg : getN l k with
    | none => rfl
    | some (x, m) =>
      obtain ⟨_, _, _, _, _, hm⟩ := getN_back hk hg
      simp only
      rw [ih m hm]
      cases takeN l n m <;> rfl
theorem getI_some {l : List UInt8} {k : Int} {x : Int} {m : Nat} (h : getI l k = some (x, m)) : B64 x ∧ m ≤ l.length := by
  unfold getI at h
  split at h
  · rename_i hk
    obtain ⟨_, _, _, a, b, c⟩ := getN_back (k := k.toNat) (by omega) h
    exact ⟨⟨a, b⟩, c⟩
  · cases h
section
variable {M : World → List Int → Prop} {X : Nat → Prop} {gA h s m c B n cap : Nat} {A : Option Addr} {l : List UInt8}
/-- what the closure leaves. -/
def TakG (M : World → List Int → Prop) (X : Nat → Prop) (gA h : Nat) (A : Option Addr) (n cap : Nat) (w : World) (r : Option (List Int × Int)) (e : Ending) (w' : World) : Prop :=
  But X w w' ∧ Blk w' gA 22 #[.slice A n cap] ∧ match r with
    | none => e = .returned (.tuple #[.int .i64 0, .bool false]) ∧ ∃ k', Blk w' h 3 #[.int .i64 k']
    | some (xs, j) => e = .returned (.tuple #[.int .i64 j, .bool true]) ∧ M w' xs ∧ Blk w' h 3 #[.int .i64 j] ∧ 0 ≤ j ∧ j ≤ n
set_option maxHeartbeats 8000000 in
theorem taker1_any (hn : l.length = n) (hc : n ≤ cap) (hl : n ≤ 900000)
    (hM : ∀ W xs, M W xs → xs.length < m → ∃ b o, W.cell? ⟨s, xs.length, none⟩ = some (.pointer (some ⟨b, o, none⟩)) ∧ (∃ y, W.cell? ⟨b, o, none⟩ = some (.int .i64 y)) ∧ W.frozen? ⟨b, o, none⟩ = false ∧ X b ∧ b ≠ gA ∧ b ≠ h ∧ B ≤ b ∧ ∀ x, M (W.setCell ⟨b, o, none⟩ (.int .i64 x)) (xs ++ [x]))
    (hh : ∀ W xs v, M W xs → M (W.setCell ⟨h, 0, none⟩ v) xs) (w : World) (k : Int) (h0 : M w []) (hA : Blk w gA 22 #[.slice A n cap]) (hH : Blk w h 3 #[.int .i64 k])
    (hgh : gA ≠ h) (hBy : BysIn B w A l) (hB : B ≤ h) (hX : X h) (hm : 0 < m) (hm5 : m ≤ 5) (hk : B64 k) :
    Calls Tryd.prog 43 #[.slice (some ⟨s, 0, none⟩) m c, .pointer (some ⟨gA, 0, none⟩), .pointer (some ⟨h, 0, none⟩)] w (TakG M X gA h A n cap w (takeZ l m k)) := by
  obtain ⟨R, hR⟩ : ∃ R, takeZ l m k = R := ⟨_, rfl⟩
  rw [hR]
  have HR := Lib.hid hR; have HM := Lib.hid hM; have HH := Lib.hid hh; have H0 := Lib.hid h0; have HA := Lib.hid hA; have HHB := Lib.hid hH; have HBY := Lib.hid hBy; have HN := Lib.hid hn; have HK := Lib.hid hk; have HX := Lib.hid hX
  clear hM hh h0 hA hH hBy hn hR hk hX
  go_enter Tryd.func43, Tryd.ntmps43
  go_wp2_with fail
  go_loopw [13] (fun iv wr => ∃ (i : Nat) (xs : List Int) (k' : Int), iv = .int .i64 i ∧ i ≤ m ∧ xs.length = i ∧ M wr xs ∧ Blk wr gA 22 #[.slice A n cap] ∧ Blk wr h 3 #[.int .i64 k'] ∧ But X w wr ∧ BysIn B wr A l ∧ B64 k' ∧ (0 < i → 0 ≤ k' ∧ k' ≤ n) ∧ (takeZ l (m - i) k').map (fun p => (xs ++ p.1, p.2)) = R) (fun iv _ => m - (intOf iv).toNat)
  case atStart => exact ⟨0, [], k, rfl, Nat.zero_le _, rfl, H0.out, HA.out, HHB.out, But.refl _ _, HBY.out, HK.out, fun h => absurd h (by omega), by rw [Nat.sub_zero, ← HR.out]; cases takeZ l m k <;> rfl⟩
  case round =>
    obtain ⟨i, xs, k', rfl, hi, hxl, hMr, hAr, hHr, hbut, hby, hk', hk'', htz⟩ := hrel
    have HXL := Lib.hid hxl; have HMR := Lib.hid hMr; have HAR := Lib.hid hAr; have HHR := Lib.hid hHr; have HBUT := Lib.hid hbut; have HBYR := Lib.hid hby; have HK' := Lib.hid hk'; have HK2 := Lib.hid hk''; have HTZ := Lib.hid htz
    clear hxl hMr hAr hHr hbut hby hk' hk'' htz
    by_cases hlt : i < m
    · obtain ⟨b, o, hp, ⟨y, hy⟩, hfr, hxb, hbg, hbh, hBb, hnew⟩ := HM.out wr xs HMR.out (by rw [HXL.out]; exact hlt)
      rw [HXL.out] at hp
      have i1 : (i : Int) < (m : Int) := by omega
      have i0 : (0 : Int) ≤ (i : Int) := by omega
      have cA : wr.cell? ⟨gA, 0, none⟩ = some (.slice A n cap) := (HAR.out.cell 0).trans rfl
      have cH : wr.cell? ⟨h, 0, none⟩ = some (.int .i64 k') := (HHR.out.cell 0).trans rfl
      have HG := Lib.hid (getInt_any A l n cap HN.out hc hl B k' HK'.out wr HBYR.out)
      have hTE : (takeZ l (m - i) k') = match getI l k' with | none => none | some (x, j) => (takeZ l (m - (i + 1)) (j : Int)).map fun p => (x :: p.1, p.2) := by
        rw [show m - i = (m - (i + 1)) + 1 by omega, takeZ]
      have HTE := Lib.hid hTE
      clear hTE
      match hg : getI l k' with
      | none =>
        rw [hg] at HG HTE
        have HRN : Hid (R = none) := by show _ = _; rw [← HTZ.out, HTE.out]; rfl
        unfold tupI at HG
        have HNW := Lib.hid hnew
        clear hnew hg
        go_wp2_with (go_at_call 8; (with_reducible refine HG.out.mono ?_); rintro e w' ⟨rfl, rfl⟩)
        go_ret2
        unfold TakG
        rw [HRN.out]
        exact ⟨HBUT.out, HAR.out, rfl, k', HHR.out⟩
      | some (x, j) =>
        obtain ⟨hx64, hjl⟩ := getI_some hg
        rw [hg] at HG HTE
        have HRN : Hid (R = (takeZ l (m - (i + 1)) (j : Int)).map fun p => ((xs ++ [x]) ++ p.1, p.2)) := by
          show _ = _
          rw [← HTZ.out, HTE.out]
          show Option.map _ (Option.map _ (takeZ l (m - (i + 1)) (j : Int))) = _
          rw [Option.map_map]; congr 1; funext p; simp
        unfold tupI at HG
        have HNW := Lib.hid (hnew x)
        have fH : wr.frozen? ⟨h, 0, none⟩ = false := HHR.out.free 0
        have hfb : (⟨b, o, none⟩ : Addr).block ≠ h := hbh
        have HL := Lib.hid (And.intro hx64 hjl)
        clear hnew hg hx64 hjl
        go_wp2_with (go_at_call 8; (with_reducible refine HG.out.mono ?_); rintro e w' ⟨rfl, rfl⟩)
        go_roundw
        case rel =>
          refine ⟨i + 1, xs ++ [x], j, by go_num, by omega, by simp [HXL.out], ?_, ?_, ?_, ?_, ?_, ?_, ?_, ?_⟩
          · exact HH.out _ _ _ HNW.out
          · exact (HAR.out.far (fun e => hbg e.symm) _).far hgh _
          · exact ((HHR.out.far (fun e => hbh e.symm) _).set_ 0 _)
          · exact (HBUT.out.set _ _ (.inl hxb)).set _ _ (.inl HX.out)
          · refine HBYR.out.below ?_
            exact (((But.refl (fun q => B ≤ q) wr).set _ _ (.inl hBb)).set _ _ (.inl hB)).below (Nat.le_trans hB (Nat.le_of_lt (Blk.lt HHR.out))) fun q _ hq => hq
          · unfold B64; have := HL.out.2; have := HN.out; omega
          · intro _; have := HL.out.2; have := HN.out; omega
          · exact HRN.out.symm
        case measure => simp [intOf]; omega
    · obtain rfl : i = m := by omega
      have i1 : ¬ (i : Int) < (i : Int) := by omega
      have cH : wr.cell? ⟨h, 0, none⟩ = some (.int .i64 k') := (HHR.out.cell 0).trans rfl
      have HRN : Hid (R = some (xs, k')) := by
        show _ = _
        rw [← HTZ.out, Nat.sub_self]; simp [takeZ]
      go_wp2_with fail
      go_ret2
      unfold TakG
      rw [HRN.out]
      exact ⟨HBUT.out, HAR.out, rfl, HMR.out, HHR.out, (HK2.out hm).1, (HK2.out hm).2⟩
end
end Go.Proofs.YtchhenpijbecaaaDoor
