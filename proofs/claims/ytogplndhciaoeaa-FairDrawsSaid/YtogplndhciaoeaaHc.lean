/- layer 33 (fair): Script; SameEntries of two rows that are alike. -/
import Derived.Test.YtogplndhciaoeaaHb
import Derived.Test.YtogplndhciaoeaaFh
namespace Go.Proofs.Ytogplndhciaoeaa
open Go.RowKit Go.Maps
set_option maxRecDepth 100000

/-- a row of unsigned numbers that may be read. -/
def RowU (B : Nat) (w : World) (A : Option Addr) (l : List Int) : Prop := ∀ i (hi : i < l.length), ∃ b off, A = some ⟨b, off, none⟩ ∧ b < B ∧ w.cell? ⟨b, off + i, none⟩ = some (.int .u64 l[i])
theorem RowU.below {B : Nat} {w w' : World} {A : Option Addr} {l : List Int} (h : RowU B w A l) (hb : Below B w w') : RowU B w' A l := fun i hi => by
  obtain ⟨b, off, e, hlt, hc⟩ := h i hi
  exact ⟨b, off, e, hlt, (hb.cell (p := ⟨b, off + i, none⟩) hlt).trans hc⟩
theorem RowU.mono {B B' : Nat} {w : World} {A : Option Addr} {l : List Int} (h : RowU B w A l) (hB : B ≤ B') : RowU B' w A l := fun i d => by
  obtain ⟨b, off, e, hlt, hr⟩ := h i d
  exact ⟨b, off, e, by omega, hr⟩
theorem ownU_row {w : World} {B : Nat} {D : Value} {L : List Int} (h : OwnU B w D L) : ∃ A cap, D = .slice A L.length cap ∧ L.length ≤ cap ∧ RowU w.heap.size w A L := by
  have h' := h
  rcases h.2 with ⟨rfl, hn⟩ | ⟨g, cap, cur, rfl, hg, hh, hnc, _⟩
  · have : L = [] := List.eq_nil_of_length_eq_zero hn
    subst this
    exact ⟨none, 0, rfl, Nat.le_refl _, fun i hi => by simp at hi⟩
  · refine ⟨some ⟨g, 0, none⟩, cap, rfl, hnc, fun i hi => ⟨g, 0, rfl, (h'.lt g rfl).2, ?_⟩⟩
    have := h'.cells (g := g) rfl i (.int .u64 L[i]) (by rw [List.getElem?_map, List.getElem?_eq_getElem hi]; rfl)
    rwa [Addr.add_mid] at this
theorem ownE_on {w w' : World} {B : Nat} {v : Value} {l : List En} (h : OwnE B w v l) (hb : Below w.heap.size w w') : OwnE B w' v l :=
  h.kept (row := none) ⟨hb.os, hb.tape, hb.output, hb.size, fun j hj _ => hb.block j hj⟩ (by cases v.ownBlock <;> simp)
theorem ownE_base {w : World} {B B' : Nat} {v : Value} {l : List En} (h : OwnE B w v l) (hB : B' ≤ B) : OwnE B' w v l := by
  refine ⟨h.1, ?_⟩
  rcases h.2 with e | ⟨g, cap, cur, e, hg, r⟩
  · exact .inl e
  · exact .inr ⟨g, cap, cur, e, Nat.le_trans hB hg, r⟩
def scriptL (s : Int) (cpus : List Int) (progs : Int) (N : Nat) : List En := (drawsL s N).map fun d => entL d cpus progs
theorem scriptL_len (s : Int) (cpus : List Int) (progs : Int) (N : Nat) : (scriptL s cpus progs N).length = N := by unfold scriptL; rw [List.length_map, drawsL_len]
set_option maxHeartbeats 8000000 in
theorem script_any (s : Int) (A : Option Addr) (cpus : List Int) (c cap : Nat) (hc : cpus.length = c) (hcl : c ≤ 1000) (progs n : Int) (hp : W64 progs) (N : Nat) (hN : (min n 4096).toNat = N) (w : World) (hR : RowN w.heap.size w A cpus) :
    Calls Try.prog 11 #[.int .u64 s, .slice A c cap, .int .i64 progs, .int .i64 n] w fun e w' => ∃ v, e = .returned v ∧ OwnE w.heap.size w' v (scriptL s cpus progs N) ∧ Below w.heap.size w w' := by
  have HR := Lib.hid hR; have HC := Lib.hid hc; have HP := Lib.hid hp
  have HDR := Lib.hid (draws_any s n N hN w)
  have HU := Lib.hid (draws_U64 s N)
  have HNL := Lib.hid (drawsL_len s N)
  have hN4 : N ≤ 4096 := by rw [Int.min_def] at hN; split at hN <;> omega
  have HSC : Hid (scriptL s cpus progs N = (drawsL s N).map fun d => entL d cpus progs) := rfl
  generalize scriptL s cpus progs N = SC at *
  clear hN hR hc hp
  generalize drawsL s N = D at *
  go_enter Try.func11, Try.ntmps11
  go_upto_region 2 with fail
  go_upto_region 3 with (go_at_call 8; (with_reducible refine HDR.out.mono ?_); rintro e w1 ⟨v, rfl, ho, hb⟩; obtain ⟨Ad, cd, rfl, -, hrd⟩ := ownU_row ho; rw [HNL.out]; have HRD := Lib.hid hrd; have HB1 := Lib.hid hb; clear ho hb hrd)
  clear HDR
  go_loopw [9, 16] (fun rv iv wr => ∃ k : Nat, iv = .int .i64 k ∧ k ≤ N ∧ OwnE w1.heap.size wr rv ((D.take k).map fun d => entL d cpus progs) ∧ Below w1.heap.size w1 wr) (fun _ iv _ => N - (intOf iv).toNat)
  case atStart => exact ⟨0, rfl, Nat.zero_le _, World.ownsRow_nil _ _ _ _, Below.refl _ _⟩
  case round =>
    obtain ⟨k, rfl, hk, ho, hb⟩ := hrel
    have HO := Lib.hid ho; have HB := Lib.hid hb
    have HBW := Lib.hid (HB1.out.trans (hb.mono HB1.out.size))
    clear ho hb
    by_cases hlt : k < N
    · have hkl : k < D.length := by rw [HNL.out]; exact hlt
      obtain ⟨b, o, rfl, -, hcc⟩ := (HRD.out.below HB.out) k hkl
      obtain ⟨d, hd⟩ : ∃ d, D[k] = d := ⟨_, rfl⟩
      rw [hd] at hcc
      have HTK : Hid ((D.take (k + 1)).map (fun d => entL d cpus progs) = (D.take k).map (fun d => entL d cpus progs) ++ [entL d cpus progs]) := by show _ = _; rw [List.take_succ_eq_append_getElem hkl, hd, List.map_append]; rfl
      have HEN := Lib.hid (entry_any d (HU.out d (by rw [← hd]; exact List.getElem_mem _)) A cpus c cap HC.out hcl progs HP.out wr ((HR.out.below HBW.out).mono HBW.out.size))
      have HLL : Hid (((D.take k).map fun d => entL d cpus progs).length ≤ 100000) := by show _ ≤ _; rw [List.length_map, List.length_take]; omega
      clear hd hkl
      generalize entL d cpus progs = x at *
      generalize ((D.take k).map fun d => entL d cpus progs) = S at *
      have k0 : (0 : Int) ≤ (k : Int) := by omega
      have k1 : (k : Int) < (N : Int) := by omega
      obtain ⟨xk, xa, xb, xc, xd⟩ := x
      have HEN2 : Hid (Calls Try.prog 33 #[.int .u64 d, .slice A c cap, .int .i64 progs] wr fun e w' => e = .returned (.agg #[.int .i64 xk, .int .i64 xa, .int .i64 xb, .int .i64 xc, .int .u64 xd]) ∧ Below wr.heap.size wr w') := HEN.out
      clear HEN
      go_wp2_with (first
        | (go_at_call 33; (with_reducible refine HEN2.out.mono ?_); rintro e w3 ⟨rfl, hb3⟩; have HB3 := Lib.hid hb3; have HO3 := Lib.hid (ownE_on HO.out hb3); clear hb3)
        | (with_reducible (show wpList _ _ _ _ _ _); refine app_e rfl (.tmp 20) (.tmp 25) rfl w1.heap.size _ S rfl (HO3.out.alloc _) w3.heap.size 1 ⟨xk, xa, xb, xc, xd⟩ rfl (Blk.new w3 _ _) HLL.out (by have := HB.out.size; have := HB3.out.size; simp; omega) ?_; intro v5 w5 ho5 hg5; have HO5 := Lib.hid ho5; have HG5 := Lib.hid hg5; clear ho5 hg5))
      go_roundw
      case rel =>
        have hB13 : Below w1.heap.size w1 w3 := HB.out.trans (HB3.out.mono HB.out.size)
        refine ⟨k + 1, rfl, by omega, by rw [HTK.out]; exact HO5.out, ?_⟩
        have h1 : Below w1.heap.size w1 (w3.alloc (.cells (clE ⟨xk, xa, xb, xc, xd⟩).toArray 34)) := hB13.alloc hB13.size _
        exact h1.grown HG5.out (by simp; have := hB13.size; omega) (fun r e => (HO.out.lt r e).1)
      case measure => simp [intOf]; omega
    · obtain rfl : k = N := by omega
      have HT : Hid (D.take k = D) := by show _ = _; rw [← HNL.out, List.take_length]
      go_wp2_with fail
      go_ret
      rw [HSC.out]
      have h := HO.out
      rw [HT.out] at h
      exact ⟨_, rfl, ownE_base h HB1.out.size, HBW.out⟩
set_option maxHeartbeats 4000000 in
theorem sameE_any (A A2 : Option Addr) (l : List En) (n c c2 : Nat) (hn : l.length = n) (hl : n ≤ 1000000) (w : World) (h : RowsE w.heap.size w A l) (h2 : RowsE w.heap.size w A2 l) :
    Calls Try.prog 10 #[.slice A n c, .slice A2 n c2] w fun e w' => e = .returned (.bool true) ∧ Below w.heap.size w w' := by
  have H := Lib.hid h; have H2 := Lib.hid h2; have HN := Lib.hid hn
  clear h h2 hn
  have t0 : ((n : Int) != (n : Int)) = false := by simp
  go_enter Try.func10, Try.ntmps10
  go_wp2_with fail
  go_loopw [13] (fun iv wr => ∃ k : Nat, iv = .int .i64 k ∧ k ≤ n ∧ Below w.heap.size w wr) (fun iv _ => n - (intOf iv).toNat)
  case atStart => exact ⟨0, rfl, Nat.zero_le _, Below.refl _ _⟩
  case round =>
    obtain ⟨k, rfl, hk, hb⟩ := hrel
    have HB := Lib.hid hb
    by_cases hlt : k < n
    · obtain ⟨x, hx⟩ : ∃ x, l[k]? = some x := ⟨_, List.getElem?_eq_getElem (by rw [HN.out]; exact hlt)⟩
      obtain ⟨b, o, rfl, -, r1⟩ := (H.out.below hb) k x hx
      obtain ⟨b', o', rfl, -, r2⟩ := (H2.out.below hb) k x hx
      obtain ⟨xk, xa, xb, xc, xd⟩ := x
      have a0 : wr.cell? ⟨b, o + k * 5, none⟩ = some (.int .i64 xk) := r1 0 _ rfl
      have a1 : wr.cell? ⟨b, o + k * 5 + 1, none⟩ = some (.int .i64 xa) := r1 1 _ rfl
      have a2 : wr.cell? ⟨b, o + k * 5 + 2, none⟩ = some (.int .i64 xb) := r1 2 _ rfl
      have a3 : wr.cell? ⟨b, o + k * 5 + 3, none⟩ = some (.int .i64 xc) := r1 3 _ rfl
      have a4 : wr.cell? ⟨b, o + k * 5 + 4, none⟩ = some (.int .u64 xd) := r1 4 _ rfl
      have b0 : wr.cell? ⟨b', o' + k * 5, none⟩ = some (.int .i64 xk) := r2 0 _ rfl
      have b1 : wr.cell? ⟨b', o' + k * 5 + 1, none⟩ = some (.int .i64 xa) := r2 1 _ rfl
      have b2 : wr.cell? ⟨b', o' + k * 5 + 2, none⟩ = some (.int .i64 xb) := r2 2 _ rfl
      have b3 : wr.cell? ⟨b', o' + k * 5 + 3, none⟩ = some (.int .i64 xc) := r2 3 _ rfl
      have b4 : wr.cell? ⟨b', o' + k * 5 + 4, none⟩ = some (.int .u64 xd) := r2 4 _ rfl
      have k0 : (0 : Int) ≤ (k : Int) := by omega
      have k1 : (k : Int) < (n : Int) := by omega
      clear hb hx r1 r2
      go_upto_region 6 with fail
      go_region
      go_wp2_with fail
      go_roundw
      case rel => exact ⟨k + 1, by go_num, by omega, HB.out.os, HB.out.tape, HB.out.output, HB.out.size, HB.out.block⟩
      case measure => simp [intOf]; omega
    · obtain rfl : k = n := by omega
      have tk : ¬ (k : Int) < (k : Int) := by omega
      clear hb
      go_wp2_with fail
      go_ret
      exact ⟨rfl, HB.out⟩
end Go.Proofs.Ytogplndhciaoeaa
