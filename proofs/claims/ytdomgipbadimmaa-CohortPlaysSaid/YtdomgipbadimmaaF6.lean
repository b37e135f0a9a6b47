/- CohortPlays' walk (layer 14). -/
import Derived.Test.YtdomgipbadimmaaF5
import Derived.Test.YtdomgipbadimmaaC6
import Derived.Laws.MakeOwn
namespace Go.Proofs.Ytdomgipbadimmaa
open Go.RowKit
set_option maxRecDepth 100000

def zLk : Array Value := #[.bool false, .int .i64 0, .int .i64 0, .int .i64 0, .slice none 0 0, .slice none 0 0]
theorem infoLk : (Try.prog.info? 93).map (fun i => (i.zero, i.size, i.bytes)) = some (some (.agg zLk), 6, 80) := by kernel_rfl
theorem make_docs (N : Nat) (hN : N ≤ 16) (w : World) : (Instr.makeSlice 41 (.int .i64 (N : Int)) (.int .i64 (N : Int))).run Try.prog w = .ok (.slice (some ⟨w.heap.size, 0, none⟩) N N) (w.alloc (.cells (madeCells zLk (N * 6)) 93)) := by
  obtain ⟨i, hi, hz, hs, hb⟩ := info_parts infoLk
  have hr := run_make (P := Try.prog) w 41 93 i _ Try.underlying41 hi hz .i64 .i64 N N (by omega) (Int.le_refl _) (by rw [hb]; omega) (by omega)
  simp only [Int.toNat_natCast, hs] at hr
  exact hr
theorem docM_new (N : Nat) (w : World) : DocM (fun _ => False) w.heap.size 0 (List.replicate N zCoh) (w.alloc (.cells (madeCells zLk (N * 6)) 93)) := by
  refine ⟨⟨_, Blk.new w _ _, by rw [size_madeCells, List.length_replicate], fun i c hc => ?_⟩, fun x q => q.elim⟩
  have hi := (List.getElem?_eq_some_iff.1 hc).1
  rw [List.length_replicate] at hi
  obtain rfl : zCoh = c := by
    have := List.mem_of_getElem? hc
    exact (List.eq_of_mem_replicate this).symm
  refine ⟨[], .slice none 0 0, .slice none 0 0, fun j hj => ?_, dlk_z _ _, relC_z, Nat.le_refl _, zCoh_b⟩
  have hlt : i * 6 + j < N * 6 := by omega
  have hmod : (i * 6 + j) % 6 = j := by omega
  have h1 : (madeCells zLk (N * 6))[i * 6 + j]? = some (zLk[j]!) := by
    unfold madeCells
    rw [Array.getElem?_map, Array.getElem?_range, if_pos hlt]
    show some (zLk[(i * 6 + j) % 6]!) = _
    rw [hmod]
  rw [h1]
  match j, hj with
  | 0, _ => rfl
  | 1, _ => rfl
  | 2, _ => rfl
  | 3, _ => rfl
  | 4, _ => rfl
  | 5, _ => rfl
theorem DocM.wider {D D' : Nat → Prop} {xb k : Nat} {cs : List Coh} {W : World} (h : DocM D xb k cs W) (hD : ∀ x, D x → D' x) (hne : ∀ x, D' x → x ≠ xb) : DocM D' xb k cs W := by
  obtain ⟨cells, a, b, d⟩ := h.blk
  refine ⟨⟨cells, a, b, fun i c hc => ?_⟩, hne⟩
  obtain ⟨E, wv, rv, e, f, g⟩ := d i c hc
  exact ⟨E, wv, rv, e, f.mono fun x _ q => hD x q, g⟩
/-- A block that is made is left alone by the code, and by the document. -/
theorem Two14.keep {w0 W : World} {pb lb xb k : Nat} {ks : List Coh} (h : Two14 w0 pb lb xb k ks W) (o : Obj) : ∃ Z : Nat → Prop, Z W.heap.size ∧ TwoD w0 Z pb lb xb k ks (W.alloc o) := by
  obtain ⟨D, lab, a, b, d⟩ := h.ex
  have hxl := b.lt
  have hal : But Nob W (W.alloc o) := (But.refl _ _).alloc _
  have hsz : (W.alloc o).heap.size = W.heap.size + 1 := by simp
  refine ⟨fun x => D x ∨ x = W.heap.size, .inr rfl, ⟨lab, ?_, ?_, fun x q => ?_⟩, h.xlow, h.low.trans (hal.below (B := w0.heap.size) h.low.size fun _ _ q => q.elim)⟩
  · exact (a.away fun k hk hB => ⟨hB.1, hB.2.1, fun q => q.elim hB.2.2 (fun e => by omega)⟩).nob hal
  · exact (b.wider (fun x q => .inl q) (fun x q => q.elim (b.ne x) (fun e => by omega))).but hal fun _ _ q => q
  · rcases q with q | q
    · have := d x q; omega
    · omega
set_option maxHeartbeats 16000000 in
theorem plays14_any (nn : Int) (A : Option Addr) (len cap : Nat) (K : Nat → Nat) (I J L : Nat → Int) (w : World) (hcap : len ≤ cap) (hI : OpsC w A len K I J L) :
    Calls Try.prog 4 #[.int .i64 nn, .slice A len cap] w fun e w' => e = .returned (.bool true) ∧ Below w.heap.size w w' := by
  have HLV := Lib.hid (fun W => lives14_any W)
  obtain ⟨M, hM⟩ : ∃ M : Nat, max 0 (min nn 16) = (M : Int) := ⟨(max 0 (min nn 16)).toNat, by omega⟩
  have hM16 : M ≤ 16 := by omega
  have P := Lib.hid (newL_any nn M (by omega) w)
  have hmk : ∀ X, (Instr.makeSlice 41 (.int .i64 (max 0 (min nn 16))) (.int .i64 (max 0 (min nn 16)))).run Try.prog X = .ok (.slice (some ⟨X.heap.size, 0, none⟩) M M) (X.alloc (.cells (madeCells zLk (M * 6)) 93)) := fun X => by rw [hM]; exact make_docs M hM16 X
  clear hM
  go_enter Try.func4, Try.ntmps4
  go_upto_region 1 with fail
  go_cut [1] (fun t wx => ∃ N : Nat, N ≤ 60 ∧ N ≤ len ∧ t = .slice A N cap ∧ wx = w)
  case first =>
    clear P HLV hI hmk
    by_cases h60 : len ≤ 60
    · have t0 : ¬ (60 : Int) < len := by omega
      have t1 : (0 : Int) ≤ len := by omega
      have t2 : (len : Int) ≤ cap := by omega
      go_wp2_with fail
      go_meet
      exact ⟨len, h60, Nat.le_refl _, by first | rfl | (rw [show (min (len : Int) 60).toNat = len by omega]), rfl⟩
    · have t0 : (60 : Int) < len := by omega
      have t2 : (60 : Int) ≤ cap := by omega
      have t3 : 60 ≤ cap := by omega
      go_wp2_with fail
      go_meet
      exact ⟨60, Nat.le_refl _, by omega, by first | rfl | (rw [show (min (len : Int) 60).toNat = 60 by omega]), rfl⟩
  case rest =>
    obtain ⟨N, hN1, hN2, rfl, hwx⟩ := hcut
    obtain rfl := hwx.symm
    have HI : Hid (OpsC w A N K I J L) := hI.less hN2
    clear hI hcap hN2
    go_upto_region 4 with (go_at_call 13; (with_reducible refine P.out.mono ?_); rintro e w1 ⟨pb, lb, lab, rfl, h1, b1⟩)
    have hal : But Nob w1 (w1.alloc (.cells (madeCells zLk (M * 6)) 93)) := (But.refl _ _).alloc _
    have h2 : Two14 w pb lb w1.heap.size 0 (List.replicate M zCoh) (w1.alloc (.cells (madeCells zLk (M * 6)) 93)) :=
      ⟨⟨fun _ => False, lab, (h1.away fun k hk hB => ⟨hB, by omega, fun q => q⟩).nob hal, docM_new M w1, fun x q => q.elim⟩, b1.size, b1.trans (hal.below (B := w.heap.size) b1.size fun _ _ q => q.elim)⟩
    have PA := Lib.hid (alike14_any 0 h2 (List.length_replicate) hM16 (by omega))
    have HT2 := Lib.hid h2
    clear h1 b1 hal h2 P hmk
    generalize w1.alloc (.cells (madeCells zLk (M * 6)) 93) = W2 at *
    generalize w1.heap.size = xb at *
    go_wp2_with (go_at_call 14; (with_reducible refine PA.out.mono ?_); rintro e3 w3 ⟨rfl, hb3⟩)
    have HT3 := Lib.hid (HT2.out.nob (But.of_below hb3))
    clear hb3 HT2 PA
    go_loopw [30] (fun iv wr => ∃ (k : Nat) (ks : List Coh), iv = .int .i64 k ∧ k ≤ N ∧ ks.length = M ∧ Two14 w pb lb xb k ks wr) (fun iv _ => N - (intOf iv).toNat)
    case atStart => exact ⟨0, _, rfl, Nat.zero_le _, List.length_replicate, HT3.out⟩
    case round =>
      clear HT3
      obtain ⟨k, ks, rfl, hk, hl, ht⟩ := hrel
      have HT := Lib.hid ht
      have hb := ht.low
      clear ht
      by_cases hlt : k < N
      · obtain ⟨b, off, rfl, -, c0, c1, c2, c3⟩ := (HI.out.below hb) k hlt
        clear hb
        have k0 : (0 : Int) ≤ (k : Int) := by omega
        have k1 : (k : Int) < (N : Int) := by omega
        have HLT := Lib.hid hlt
        generalize K k = kn at c0
        generalize I k = iv0 at c1
        generalize J k = a at c2
        generalize L k = d at c3
        obtain ⟨Z, hZ, hd⟩ := HT.out.keep (.cells #[.int .u64 kn, .int .i64 iv0, .int .i64 a, .int .i64 d] 45)
        have PD := Lib.hid (do14_any kn iv0 a d hd hl (by omega))
        have hbx := Blk.new wr 45 #[.int .u64 kn, .int .i64 iv0, .int .i64 a, .int .i64 d]
        have HBX := Lib.hid hbx; have HZ := Lib.hid hZ
        clear hd hZ hbx hl HT
        go_wp2_with (first
          | (go_at_call 15; (with_reducible refine PD.out.mono ?_); rintro e5 w5 ⟨rfl, ⟨ks', hl', h5⟩, hfr⟩; have hb5 := (HBX.out.but hfr (fun q => q HZ.out)).cell 2; simp only [List.getElem?_toArray, List.getElem?_cons_zero, List.getElem?_cons_succ] at hb5; have PA := Lib.hid (alike14_any a h5 hl' hM16 (by have := HLT.out; omega)); have H5 := Lib.hid h5; have HL5 := Lib.hid hl'; clear h5 hl' hfr)
          | (go_at_call 14; (with_reducible refine PA.out.mono ?_); rintro e6 w6 ⟨rfl, hb6⟩; have H6 := Lib.hid (H5.out.nob (But.of_below hb6)); clear hb6))
        go_roundw
        case rel => exact ⟨k + 1, ks', by go_num, by have := HLT.out; omega, HL5.out, H6.out⟩
        case measure => have := HLT.out; simp [intOf]; omega
      · have t : ¬ (k : Int) < (N : Int) := by omega
        clear hb
        go_wp2_with fail
        refine (HLV.out _).mono ?_
        rintro e w9 ⟨rfl, h9⟩
        dsimp only
        have HB9 := Lib.hid (HT.out.low.trans (h9.mono HT.out.low.size))
        clear h9
        go_wp2_with fail
        go_ret
        exact ⟨rfl, HB9.out⟩
end Go.Proofs.Ytdomgipbadimmaa
