/- The document's Dec: a number's text. -/
import Derived.Test.YtpdghnlnbhenhaaDoorPt
import Derived.Deep.RegionHeld3
import Derived.Laws.Concat
import Derived.IntWalk
namespace Go.Proofs.YtpdghnlnbhenhaaDoor
open Go.RowKit

theorem conv_at {W : World} {g : Nat} {b : UInt8} {x : Int} (hx : x = (b.toNat : Int)) (h : W.cell? ⟨g, 0, none⟩ = some (.int .u8 x)) : (convert 56 9 (.slice (some ⟨g, 0, none⟩) 1 1)).run Tryd.prog W = .ok (.string { data := #[b] }) W := by
  subst hx
  refine run_convert_bytes_back W _ _ _ ⟨g, 0, none⟩ 1 [b] Tryd.underlying56 Tryd.underlying5 Tryd.underlying9 fun j hj => ?_
  obtain rfl : j = 0 := by simp at hj; exact hj
  exact h
theorem byte_of (x : Nat) (h : x < 256) : ∃ b : UInt8, b = UInt8.ofNat x ∧ (x : Int) = (b.toNat : Int) := ⟨_, rfl, by simp; omega⟩
set_option maxHeartbeats 1000000 in
theorem dec_one (n : Nat) (h : n < 10) (w : World) :
    Calls Tryd.prog 40 #[.int .i64 n] w fun e w' => e = .returned (.string { data := #[UInt8.ofNat (48 + n)] }) ∧ Below w.heap.size w w' := by
  have hd : decide ((n : Int) < 10) = true := by simp; omega
  obtain ⟨b, hb, hx⟩ := byte_of (48 + n) (by omega)
  have hcv := conv_at (W := w.alloc (.cells #[.int .u8 (48 + (n : Int))] 5)) (g := w.heap.size) (b := b) (x := 48 + (n : Int)) (by omega) (cell_one_new w (.int .u8 (48 + (n : Int))) 5 0 _ rfl)
  have HB := Lib.hid hb; clear hb hx
  go_enter Tryd.func40, Tryd.ntmps40
  go_wp2
  go_ret
  exact ⟨by rw [← HB.out] <;> rfl, (Below.refl _ _).alloc (Nat.le_refl _) _⟩
theorem dec_len_le (n : Nat) (h : n ≤ 9223372036854775807) : (Lib.decDigits n).length ≤ 21 := by
  have := Lib.itoa_length_le (n : Int) (by omega) (by omega)
  rwa [Lib.itoa_nonneg] at this
theorem dec_add (A : List UInt8) (b : UInt8) (W : World) (h : A.length ≤ 1000) : (Op.stringOp .add ⟨A.toArray⟩ { data := #[b] }).run Tryd.prog W = .ok (.string ⟨(A ++ [b]).toArray⟩) W := by
  have h1 : (ByteArray.mk A.toArray).size = A.length := by simp [ByteArray.size]
  have h2 : (ByteArray.mk #[b]).size = 1 := rfl
  refine (run_string_add_sum (P := Tryd.prog) (w := W) ⟨A.toArray⟩ ⟨#[b]⟩ (by omega)).trans ?_
  congr 2
set_option maxHeartbeats 2000000 in
theorem dec_any (k : Nat) : ∀ (n : Nat) (w : World), n ≤ k → n ≤ 9223372036854775807 →
    Calls Tryd.prog 40 #[.int .i64 n] w fun e w' => e = .returned (.string ⟨(Lib.decDigits n).toArray⟩) ∧ Below w.heap.size w w' := by
  induction k with
  | zero =>
    intro n w hk _
    obtain rfl : n = 0 := by omega
    have := dec_one 0 (by omega) w
    rw [Lib.decDigits, dif_pos (by omega)]; exact this
  | succ k ih =>
    intro n w hk hm
    by_cases hn : n < 10
    · have := dec_one n hn w
      rw [Lib.decDigits, dif_pos hn]; exact this
    · have hd : decide ((n : Int) < 10) = false := by simp; omega
      have hrec : Hid (∀ W, Calls Tryd.prog 40 #[.int .i64 ((n / 10 : Nat) : Int)] W fun e w' => e = .returned (.string ⟨(Lib.decDigits (n / 10)).toArray⟩) ∧ Below W.heap.size W w') := fun W => ih (n / 10) W (by omega) (by omega)
      have hq : (n : Int).tdiv 10 = ((n / 10 : Nat) : Int) := by rw [Int.tdiv_eq_ediv_of_nonneg (by omega)]; omega
      have hr : (n : Int).tmod 10 = ((n % 10 : Nat) : Int) := by rw [Int.tmod_eq_emod_of_nonneg (by omega)]; omega
      obtain ⟨b, hb, hx⟩ := byte_of (48 + n % 10) (by omega)
      have hsn : Lib.decDigits n = Lib.decDigits (n / 10) ++ [b] := by rw [hb, Lib.decDigits, dif_neg (by omega)]
      have hlen := dec_len_le (n / 10) (by omega)
      have HB := Lib.hid hb; clear hb
      rw [hsn]
      have HS := Lib.hid hsn; clear hsn
      generalize hm10 : n % 10 = m at *
      generalize hn10 : n / 10 = d at *
      generalize Lib.decDigits d = A at *
      have hadd := fun W => dec_add A b W (by omega)
      have hm1 : m < 10 := by omega
      clear ih hk
      have wd : IntKind.i64.wrap (d : Int) = (d : Int) := IntWalk.i64_in _ (by omega)
      have wm : IntKind.i64.wrap (48 + (m : Int)) = 48 + (m : Int) := IntWalk.i64_in _ (by omega)
      have wu : IntKind.u8.wrap (48 + (m : Int)) = 48 + (m : Int) := IntWalk.u8_in _ (by omega)
      go_enter Tryd.func40, Tryd.ntmps40
      go_wp2_with fail
      have HS : Hid (Below w.heap.size w w.drew) := (Below.refl _ _).drew
      refine wp_region_held_drew (S := fun W => Below w.heap.size w W) (by kernel_rfl) HS.out (fun _ => ?_)
      show wpAnyH _ _ _ _ _ _ _ _ _
      refine wpAnyH_take (i := 0) (v := ?_) rfl (by kernel_rfl) (by kernel_rfl) (by kernel_rfl) (fun _ _ _ h => h) (Or.inl ⟨by rfl, fun W hW => by go_simp <;> with_reducible rfl⟩) HS.out ?_
      go_simp
      refine wpAnyH_take (i := 1) (v := ?_) rfl (by kernel_rfl) (by kernel_rfl) (by kernel_rfl) (fun _ _ _ h => h) (Or.inl ⟨by rfl, fun W hW => by go_simp <;> with_reducible rfl⟩) HS.out ?_
      go_simp
      refine wpAnyH_take (i := 3) (v := ?_) rfl (by kernel_rfl) (by kernel_rfl) (by kernel_rfl) (fun _ _ _ h => h) (Or.inl ⟨by rfl, fun W hW => by go_simp <;> with_reducible rfl⟩) HS.out ?_
      go_simp
      refine wpAnyH_take (i := 4) (v := ?_) rfl (by kernel_rfl) (by kernel_rfl) (by kernel_rfl) (fun _ _ _ h => h) (Or.inl ⟨by rfl, fun W hW => by go_simp <;> with_reducible rfl⟩) HS.out ?_
      go_simp
      refine wpAnyH_take (i := 5) (v := ?_) rfl (by kernel_rfl) (by kernel_rfl) (by kernel_rfl) (fun _ _ _ h => h) (Or.inl ⟨by rfl, fun W hW => by go_simp <;> with_reducible rfl⟩) HS.out ?_
      go_simp
      refine wpAnyH_take (i := 6) (v := ?_) rfl (by kernel_rfl) (by kernel_rfl) (by kernel_rfl) (fun _ _ _ h => h) (Or.inl ⟨by rfl, fun W hW => by go_simp <;> with_reducible rfl⟩) HS.out ?_
      go_simp
      refine wpAnyH_ready (rs := [2, 7]) (by kernel_rfl) (by simp) (AllReadyH.cons rfl (fun K hK => ?_) (AllReadyH.cons rfl (fun K hK => ?_) AllReadyH.nil))
      · go_simp
        refine (hrec.out _).mono ?_
        rintro e w2 ⟨rfl, h2⟩
        have HS2 : Hid (Below w.heap.size w w2) := HS.out.trans (h2.mono HS.out.size)
        clear HS
        have HS := HS2
        refine hK.out _ _ HS.out (fun _ => ?_)
        clear hK K HS2
        refine wpAnyH_ready (rs := [7]) (by kernel_rfl) (by simp) (AllReadyH.cons rfl (fun K hK => ?_) AllReadyH.nil)
        go_simp
        have HS3 : Hid (Below w.heap.size w ((w2).alloc (.cells #[.int .u8 (48 + (m : Int))] 5))) := HS.out.alloc (by have := HS.out.size; simp at this ⊢; try omega) _
        have hcv := conv_at (W := (w2).alloc (.cells #[.int .u8 (48 + (m : Int))] 5)) (g := (w2).heap.size) (b := b) (x := 48 + (m : Int)) (by omega) (cell_one_new (w2) (.int .u8 (48 + (m : Int))) 5 0 _ rfl)
        clear HS
        have HS := HS3
        refine hK.out _ _ HS.out (fun _ => ?_)
        clear hK K HS3
        refine wpAnyH_ready (rs := [8]) (by kernel_rfl) (by simp) (AllReadyH.cons rfl (fun K hK => ?_) AllReadyH.nil)
        go_simp
        refine hK.out _ _ HS.out (fun _ => ?_)
        clear hK K
        refine wpAnyH_take (i := 9) (v := ?_) rfl (by kernel_rfl) (by kernel_rfl) (by kernel_rfl) (fun _ _ _ h => h) (Or.inl ⟨by rfl, fun W hW => by go_simp <;> with_reducible rfl⟩) HS.out ?_
        go_simp
        refine wpAnyH_take (i := 10) (v := ?_) rfl (by kernel_rfl) (by kernel_rfl) (by kernel_rfl) (fun _ _ _ h => h) (Or.inl ⟨by rfl, fun W hW => by go_simp <;> with_reducible rfl⟩) HS.out ?_
        go_simp
        refine wpAnyH_done (by kernel_rfl) ?_ _
        go_wp2
        go_ret
        exact ⟨rfl, HS.out⟩
      · go_simp
        have HS3 : Hid (Below w.heap.size w ((w.alloc (.cells #[.int .u8 (48 + (m : Int))] 5)).drew)) := ((Below.refl _ _).alloc (Nat.le_refl _) _).drew
        have hcl : ((w.alloc (.cells #[.int .u8 (48 + (m : Int))] 5)).drew).cell? ⟨w.heap.size, 0, none⟩ = some (.int .u8 (48 + (m : Int))) := cell_one_new w (.int .u8 (48 + (m : Int))) 5 0 _ rfl
        have HCL := Lib.hid hcl; clear hcl
        have hcv := conv_at (W := (w.alloc (.cells #[.int .u8 (48 + (m : Int))] 5)).drew) (g := w.heap.size) (b := b) (x := 48 + (m : Int)) (by omega) HCL.out
        clear HS
        have HS := HS3
        refine hK.out _ _ HS.out (fun _ => ?_)
        clear hK K HS3
        refine wpAnyH_ready (rs := [2, 8]) (by kernel_rfl) (by simp) (AllReadyH.cons rfl (fun K hK => ?_) (AllReadyH.cons rfl (fun K hK => ?_) AllReadyH.nil))
        · go_simp
          refine (hrec.out _).mono ?_
          rintro e w2 ⟨rfl, h2⟩
          have HS2 : Hid (Below w.heap.size w w2) := HS.out.trans (h2.mono HS.out.size)
          clear HS
          have HS := HS2
          refine hK.out _ _ HS.out (fun _ => ?_)
          clear hK K HS2
          have hcv := conv_at (W := w2) (g := w.heap.size) (b := b) (x := 48 + (m : Int)) (by omega) ((h2.cell (p := ⟨w.heap.size, 0, none⟩) (by simp)).trans HCL.out)
          refine wpAnyH_ready (rs := [8]) (by kernel_rfl) (by simp) (AllReadyH.cons rfl (fun K hK => ?_) AllReadyH.nil)
          go_simp
          refine hK.out _ _ HS.out (fun _ => ?_)
          clear hK K
          refine wpAnyH_take (i := 9) (v := ?_) rfl (by kernel_rfl) (by kernel_rfl) (by kernel_rfl) (fun _ _ _ h => h) (Or.inl ⟨by rfl, fun W hW => by go_simp <;> with_reducible rfl⟩) HS.out ?_
          go_simp
          refine wpAnyH_take (i := 10) (v := ?_) rfl (by kernel_rfl) (by kernel_rfl) (by kernel_rfl) (fun _ _ _ h => h) (Or.inl ⟨by rfl, fun W hW => by go_simp <;> with_reducible rfl⟩) HS.out ?_
          go_simp
          refine wpAnyH_done (by kernel_rfl) ?_ _
          go_wp2
          go_ret
          exact ⟨rfl, HS.out⟩
        · go_simp
          refine hK.out _ _ HS.out (fun _ => ?_)
          clear hK K
          refine wpAnyH_ready (rs := [2]) (by kernel_rfl) (by simp) (AllReadyH.cons rfl (fun K hK => ?_) AllReadyH.nil)
          go_simp
          refine (hrec.out _).mono ?_
          rintro e w2 ⟨rfl, h2⟩
          have HS2 : Hid (Below w.heap.size w w2) := HS.out.trans (h2.mono HS.out.size)
          clear HS
          have HS := HS2
          refine hK.out _ _ HS.out (fun _ => ?_)
          clear hK K HS2
          refine wpAnyH_take (i := 9) (v := ?_) rfl (by kernel_rfl) (by kernel_rfl) (by kernel_rfl) (fun _ _ _ h => h) (Or.inl ⟨by rfl, fun W hW => by go_simp <;> with_reducible rfl⟩) HS.out ?_
          go_simp
          refine wpAnyH_take (i := 10) (v := ?_) rfl (by kernel_rfl) (by kernel_rfl) (by kernel_rfl) (fun _ _ _ h => h) (Or.inl ⟨by rfl, fun W hW => by go_simp <;> with_reducible rfl⟩) HS.out ?_
          go_simp
          refine wpAnyH_done (by kernel_rfl) ?_ _
          go_wp2
          go_ret
          exact ⟨rfl, HS.out⟩
end Go.Proofs.YtpdghnlnbhenhaaDoor
