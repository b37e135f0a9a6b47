/- layer 31 (codec): CodecInts' walk. -/
import Derived.Test.YtchhenpijbecaaaDoorCl
namespace Go.Proofs.YtchhenpijbecaaaDoor
open Go.RowKit
set_option maxRecDepth 100000

/-- what both answers of a number in bytes have in common. -/
theorem both_get (l : List UInt8) (k : Int) : ∃ (a1 a2 : Int) (a3 : Bool) (b1 : Int) (b2 : Int), tupI (getI l k) = .tuple #[.int .i64 a1, .int .i64 a2, .bool a3] ∧ tupD (getD l k) = .tuple #[.int .i64 b1, .int .i64 b2] ∧
    ((a3 = true ∧ a1 = b1 ∧ a2 = k + b2 ∧ 0 < b2 ∧ b2 ≤ 10 ∧ 0 ≤ k ∧ k ≤ l.length) ∨ (a3 = false ∧ a1 = 0 ∧ a2 = 0 ∧ b1 = 0 ∧ b2 = 0)) := by
  rw [getI_D]
  match h : getD l k with
  | none => exact ⟨0, 0, false, 0, 0, rfl, rfl, .inr ⟨rfl, rfl, rfl, rfl, rfl⟩⟩
  | some (x, m) =>
    unfold getD at h
    split at h
    · rename_i hk
      match hd : dec 0 0 (l.drop k.toNat) with
      | none => rw [hd] at h; cases h
      | some (u, m') =>
        rw [hd] at h
        simp at h
        obtain ⟨rfl, rfl⟩ := h
        have := dec_lt hd
        exact ⟨unfoldI u, k + m', true, unfoldI u, m', by show Value.tuple #[_, .int .i64 ((k.toNat + m' : Nat) : Int), _] = _; rw [show ((k.toNat + m' : Nat) : Int) = k + m' by omega], rfl, .inl ⟨rfl, rfl, rfl, by omega, by omega, hk.1, hk.2⟩⟩
    · cases h
theorem own_bys {B : Nat} {w : World} {v : Value} {l : List UInt8} (h : OwB B w v l) : ∃ A cap, v = .slice A l.length cap ∧ l.length ≤ cap ∧ BysIn w.heap.size w A l := by
  have h' := h
  rcases h.2 with ⟨rfl, hn⟩ | ⟨g, cap, cur, rfl, hg, hh, hnc, _⟩
  · exact ⟨none, 0, by rw [hn], by omega, fun i hi => absurd hi (by omega)⟩
  · refine ⟨some ⟨g, 0, none⟩, cap, rfl, hnc, fun i hi => ⟨g, 0, rfl, (h'.lt g rfl).2, ?_⟩⟩
    have := h'.cells (g := g) rfl i (.int .u8 (l[i].toNat : Int)) (by simp [Lib.byteCells, hi])
    have hadd : (⟨g, 0, none⟩ : Addr).add i = ⟨g, 0 + i, none⟩ := by unfold Addr.add; split <;> simp_all
    rw [← hadd]; exact this
theorem conv_in {w : World} {B : Nat} {A : Option Addr} {l : List UInt8} {n cap : Nat} (h : BysIn B w A l) (hn : l.length = n) : (convert 22 9 (.slice A n cap)).run Tryd.prog w = .ok (.string ⟨l.toArray⟩) w := by
  subst hn
  have hadd : ∀ (b off j : Nat), (⟨b, off, none⟩ : Addr).add j = ⟨b, off + j, none⟩ := fun b off j => by unfold Addr.add; split <;> simp_all
  rcases Nat.eq_zero_or_pos l.length with h0 | h0
  · have : l = [] := List.eq_nil_of_length_eq_zero h0
    subst this
    cases A with
    | none => exact Lib.run_convert_nil_bytes w _ _ _ cap Tryd.underlying22 Tryd.underlying5 Tryd.underlying9
    | some a => exact run_convert_bytes_back w _ _ _ a cap [] Tryd.underlying22 Tryd.underlying5 Tryd.underlying9 fun j hj => absurd hj (by simp)
  · obtain ⟨b, off, rfl, -, -⟩ := h 0 h0
    refine run_convert_bytes_back w _ _ _ ⟨b, off, none⟩ cap l Tryd.underlying22 Tryd.underlying5 Tryd.underlying9 fun j hj => ?_
    obtain ⟨b', off', e, -, hc⟩ := h j hj
    injection e with e; injection e with e1 e2
    subst e1 e2
    rw [hadd]; exact hc
theorem get_back (l : List UInt8) (x : Int) (hx : B64 x) : getI (l ++ intB x) (l.length : Int) = some (x, l.length + (intB x).length) := by
  unfold getI
  rw [if_pos (by simp; omega)]
  have := getN_intB hx l []
  simpa using this
theorem str_add (a b : List UInt8) (h : a.length + b.length ≤ 1000000) (W : World) : (Op.stringOp .add ⟨a.toArray⟩ ⟨b.toArray⟩).run Tryd.prog W = .ok (.string ⟨(a ++ b).toArray⟩) W := by
  have h1 : (ByteArray.mk a.toArray).size = a.length := by simp [ByteArray.size]
  have h2 : (ByteArray.mk b.toArray).size = b.length := by simp [ByteArray.size]
  refine (run_string_add_sum (P := Tryd.prog) (w := W) ⟨a.toArray⟩ ⟨b.toArray⟩ (by omega)).trans ?_
  congr 2
theorem BysIn.take {B : Nat} {w : World} {A : Option Addr} {l : List UInt8} (h : BysIn B w A l) (n : Nat) : BysIn B w A (l.take n) := fun i hi => by
  have hi' : i < l.length := by simp at hi; omega
  obtain ⟨b, off, e, hlt, hc⟩ := h i hi'
  exact ⟨b, off, e, hlt, by rw [hc, List.getElem_take]⟩
def LvC (w0 : World) (B : Nat) (A : Option Addr) (l : List UInt8) (L : List (Value × List UInt8)) (X : World) : Prop := LvB w0 L X ∧ BysIn B X A l ∧ B ≤ X.heap.size
theorem LvC.step {w X X' : World} {B : Nat} {A : Option Addr} {l : List UInt8} {L : List (Value × List UInt8)} (h : LvC w B A l L X) (hb : Below X.heap.size X X') : LvC w B A l L X' :=
  ⟨h.1.step hb, h.2.1.below (hb.mono h.2.2), Nat.le_trans h.2.2 hb.size⟩
theorem LvC.tail {w X : World} {B : Nat} {A : Option Addr} {l : List UInt8} {y : Value × List UInt8} {L : List (Value × List UInt8)} (h : LvC w B A l (y :: L) X) : LvC w B A l L X := ⟨h.1.tail, h.2⟩
theorem LvC.cons {w X : World} {B : Nat} {A : Option Addr} {l : List UInt8} {v : Value} {y : List UInt8} {L : List (Value × List UInt8)} (h : LvC w B A l L X) (hn : SBy X v y) : LvC w B A l ((v, y) :: L) X := ⟨h.1.cons hn, h.2⟩
theorem yieldsIf_convR {ops : Array Oper} {S : World → Prop} {o : Oper} {a : Act} (hw : Region.wanted o (yielded ops a.tmps) = true) (x : Operand) (ho : o.op = .convert 22 9 x) (v : Value) (z : ByteArray)
    (hx : a.eval x = v) (hS : ∀ w, S w → (convert 22 9 v).run Tryd.prog w = .ok (.string z) w) : YieldsIf Tryd.prog ops S o (.string z) a :=
  .inl ⟨hw, fun w h => by
    unfold execOp
    simp only [ho, hx, Sem.run_bind, Sem.run_pure, Result.andThen_ok, hS w h]⟩
set_option maxHeartbeats 16000000 in
theorem ints31_any (A : Option Addr) (l0 : List UInt8) (n0 cap : Nat) (hn : l0.length = n0) (hc : n0 ≤ cap) (x k : Int) (hx : B64 x) (hk : B64 k) (w : World) (hT : Tabs w) (hA : BysIn w.heap.size w A l0) :
    Calls Tryd.prog 3 #[.slice A n0 cap, .int .i64 x, .int .i64 k] w fun e w' => e = .returned (.bool true) ∧ Below w.heap.size w w' := by
  have HN0 := Lib.hid hn; have HT := Lib.hid hT; have HA0 := Lib.hid hA
  clear hA hn hT
  go_enter Tryd.func3, Tryd.ntmps3
  go_upto_region 2 with fail
  obtain ⟨z, hz⟩ : ∃ z, (if 300 < (n0 : Int) then (300 : Int) else (n0 : Int)) = z := ⟨_, rfl⟩
  rw [hz]
  obtain ⟨n, hn⟩ : ∃ n, z.toNat = n := ⟨_, rfl⟩
  have hzn : n = min n0 300 := by rw [← hn, ← hz]; split <;> omega
  clear hz
  obtain ⟨l, hl⟩ : ∃ l, l0.take n = l := ⟨_, rfl⟩
  have hn300 : n ≤ 300 := by omega
  have hncap : n ≤ cap := by omega
  have HN : Hid (l.length = n) := by
    show _ = _
    rw [← hl, List.length_take, HN0.out]; omega
  have HA : Hid (BysIn w.heap.size w A l) := by rw [← hl]; exact HA0.out.take n
  rw [hn]
  clear hl hn hzn HA0 HN0
  have cv := conv_in (cap := cap) HA.out HN.out
  go_upto_region 3 with fail
  clear cv
  have hm10 := intB_len hx
  obtain ⟨m, hm⟩ : ∃ m, (intB x).length = m := ⟨_, rfl⟩
  have HM := Lib.hid hm
  have HLL : Hid ((l ++ intB x).length = n + m) := by show _ = _; rw [List.length_append, HN.out, HM.out]
  rw [hm] at hm10
  clear hm
  have HP := Lib.hid (putInt_any A l n cap HN.out hncap (by omega) x hx w HA.out)
  go_upto_region 4 with (go_at_call 7; (with_reducible refine HP.out.mono ?_); rintro e w1 ⟨v8, rfl, h8, hb8⟩; obtain ⟨A8, cap8, hv8, hc8, hB8⟩ := own_bys h8; rw [HLL.out] at hv8 hc8; subst hv8; have H8 := Lib.hid h8; have HB := Lib.hid hb8; have HB8 := Lib.hid hB8; clear h8 hb8 hB8)
  clear HP
  have HA1 := Lib.hid (HA.out.below HB.out)
  obtain ⟨a1, a2, a3, b1, b2, e1, e2, hrel⟩ := both_get l k
  have HG := Lib.hid (getInt_any A l n cap HN.out hncap (by omega) w.heap.size k hk w1 HA1.out)
  have HD := Lib.hid (refGet_any A l n cap HN.out (by omega) w.heap.size k hk w1 HA1.out)
  rw [e1] at HG
  rw [e2] at HD
  have HREL := Lib.hid hrel
  clear e1 e2 hrel
  generalize hW : w1 = W at *
  clear hW
  go_upto_region 6 with (first
    | (go_at_call 8; (with_reducible refine HG.out.mono ?_); rintro e w' ⟨rfl, rfl⟩)
    | (go_at_call 9; (with_reducible refine HD.out.mono ?_); rintro e w' ⟨rfl, rfl⟩))
  go_cut [70] (fun t wx => t = .bool false ∧ W = wx)
  case first =>
    rcases HREL.out with ⟨rfl, rfl, rfl, h1, h2, h3, h4⟩ | ⟨rfl, rfl, rfl, rfl, rfl⟩
    · have hlc : k ≤ 300 := by have := HN.out; omega
      have t0 : decide (0 < b2) = true := by simp; omega
      have hw : wrap64 (k + b2) = k + b2 := by unfold wrap64; omega
      go_wp2_with fail
      go_meet
      exact ⟨rfl, rfl⟩
    · go_wp2_with fail
      go_meet
      exact ⟨rfl, rfl⟩
  case rest =>
    obtain ⟨rfl, rfl⟩ := hcut
    clear HG HD HREL
    have HG2 := Lib.hid (getInt_any A8 (l ++ intB x) (n + m) cap8 HLL.out hc8 (by omega) W.heap.size (n : Int) (by unfold B64; omega) W HB8.out)
    have hgb : getI (l ++ intB x) (n : Int) = some (x, n + m) := by
      have := get_back l x hx
      rw [HN.out, HM.out] at this; exact this
    rw [hgb] at HG2
    clear hgb
    have HADD : ∀ X, (Op.stringOp .add ⟨l.toArray⟩ ⟨(intB x).toArray⟩).run Tryd.prog X = .ok (.string ⟨(l ++ intB x).toArray⟩) X := str_add l (intB x) (by rw [HN.out, HM.out]; omega)
    have HS : Hid (LvC W w.heap.size A l [(.slice A8 (n + m) cap8, l ++ intB x)] W.drew) := ⟨⟨(Below.refl _ _).drew, (HT.out.on HB.out).on (Below.refl _ _).drew, fun y hy => by
      simp only [List.mem_cons, List.not_mem_nil, or_false] at hy
      subst hy
      exact own_on (own_mono H8.out (Nat.zero_le _)) (Below.refl _ _).drew⟩, HA1.out.below ((Below.refl _ _).drew), HB.out.size⟩
    unfold tupI at HG2
    go_upto_region 9 with (go_at_call 8; (with_reducible refine HG2.out.mono ?_); rintro e w' ⟨rfl, rfl⟩)
    refine wp_region_held_drew (S := LvC W w.heap.size A l [(.slice A8 (n + m) cap8, l ++ intB x)]) (by kernel_rfl) HS.out (fun _ => ?_)
    show wpAnyH _ _ _ _ _ _ _ _ _
    refine wpAnyH_take (i := 0) (v := ?_) rfl (by kernel_rfl) (by kernel_rfl) (by kernel_rfl) (fun _ _ _ h => h) (Or.inl ⟨by rfl, fun W hW => by go_simp <;> with_reducible rfl⟩) HS.out ?_
    go_simp
    refine wpAnyH_take (i := 1) (v := _) rfl (by kernel_rfl) (by kernel_rfl) (by kernel_rfl) (fun _ _ _ h => h) (yieldsIf_convR (by rfl) _ rfl (.slice A8 (n + m) cap8) ⟨(l ++ intB x).toArray⟩ rfl (fun X h => conv_own (h.1.2.2 (.slice A8 (n + m) cap8, l ++ intB x) List.mem_cons_self))) HS.out ?_
    go_simp
    refine wpAnyH_take (i := 2) (v := ?_) rfl (by kernel_rfl) (by kernel_rfl) (by kernel_rfl) (fun _ _ _ h => h) (Or.inl ⟨by rfl, fun W hW => by go_simp <;> with_reducible rfl⟩) HS.out ?_
    go_simp
    refine wpAnyH_take (i := 3) (v := ?_) rfl (by kernel_rfl) (by kernel_rfl) (by kernel_rfl) (fun _ _ _ h => h) (Or.inl ⟨by rfl, fun W hW => by go_simp <;> with_reducible rfl⟩) HS.out ?_
    go_simp
    refine wpAnyH_ready (rs := [4]) (by kernel_rfl) (by simp) (AllReadyH.cons rfl (fun K hK => ?_) AllReadyH.nil)
    go_simp
    refine (refInt_any x hx _).mono ?_
    rintro e w6 ⟨v6, rfl, h6, hb6⟩
    dsimp only
    have HN6 : Hid (SBy w6 v6 (intB x)) := own_mono h6 (Nat.zero_le _)
    have HS' := Lib.hid (HS.out.step hb6)
    clear HS; have HS := HS'; clear HS'
    clear h6 hb6
    refine hK.out _ _ HS.out (fun _ => ?_)
    clear hK K
    refine wpAnyH_weak (S' := LvC W w.heap.size A l [(v6, intB x), (.slice A8 (n + m) cap8, l ++ intB x)]) (fun X h => h.tail) _ _ _ _ ?_
    have HS' := Lib.hid (HS.out.cons HN6.out)
    clear HS; have HS := HS'; clear HS'
    refine wpAnyH_take (i := 5) (v := _) rfl (by kernel_rfl) (by kernel_rfl) (by kernel_rfl) (fun _ _ _ h => h) (yieldsIf_convR (by rfl) _ rfl v6 ⟨(intB x).toArray⟩ rfl (fun X h => conv_own (h.1.2.2 (v6, intB x) List.mem_cons_self))) HS.out ?_
    go_simp
    refine wpAnyH_take (i := 6) (v := ?_) rfl (by kernel_rfl) (by kernel_rfl) (by kernel_rfl) (fun _ _ _ h => h) (Or.inl ⟨by rfl, fun W hW => by go_simp <;> with_reducible rfl⟩) HS.out ?_
    go_simp
    refine wpAnyH_take (i := 7) (v := ?_) rfl (by kernel_rfl) (by kernel_rfl) (by kernel_rfl) (fun _ _ _ h => h) (Or.inl ⟨by rfl, fun W hW => by go_simp <;> with_reducible rfl⟩) HS.out ?_
    go_simp
    refine wpAnyH_take (i := 8) (v := ?_) rfl (by kernel_rfl) (by kernel_rfl) (by kernel_rfl) (fun _ _ _ h => h) (Or.inl ⟨by rfl, fun W hW => by go_simp <;> with_reducible rfl⟩) HS.out ?_
    go_simp
    refine wpAnyH_take (i := 9) (v := ?_) rfl (by kernel_rfl) (by kernel_rfl) (by kernel_rfl) (fun _ _ _ h => h) (Or.inl ⟨by rfl, fun W hW => by go_simp <;> with_reducible rfl⟩) HS.out ?_
    go_simp
    refine wpAnyH_take (i := 10) (v := _) rfl (by kernel_rfl) (by kernel_rfl) (by kernel_rfl) (fun _ _ _ h => h) (yieldsIf_convR (by rfl) _ rfl (.slice A n cap) ⟨l.toArray⟩ rfl (fun X h => conv_in h.2.1 HN.out)) HS.out ?_
    go_simp
    refine wpAnyH_take (i := 11) (v := ?_) rfl (by kernel_rfl) (by kernel_rfl) (by kernel_rfl) (fun _ _ _ h => h) (Or.inl ⟨by rfl, fun W hW => by go_simp <;> with_reducible rfl⟩) HS.out ?_
    go_simp
    refine wpAnyH_take (i := 12) (v := ?_) rfl (by kernel_rfl) (by kernel_rfl) (by kernel_rfl) (fun _ _ _ h => h) (Or.inl ⟨by rfl, fun W hW => by go_simp <;> with_reducible rfl⟩) HS.out ?_
    go_simp
    refine wpAnyH_take (i := 13) (v := ?_) rfl (by kernel_rfl) (by kernel_rfl) (by kernel_rfl) (fun _ _ _ h => h) (Or.inl ⟨by rfl, fun W hW => by go_simp <;> with_reducible rfl⟩) HS.out ?_
    go_simp
    refine wpAnyH_take (i := 14) (v := ?_) rfl (by kernel_rfl) (by kernel_rfl) (by kernel_rfl) (fun _ _ _ h => h) (Or.inl ⟨by rfl, fun W hW => by go_simp <;> with_reducible rfl⟩) HS.out ?_
    go_simp
    refine wpAnyH_take (i := 15) (v := ?_) rfl (by kernel_rfl) (by kernel_rfl) (by kernel_rfl) (fun _ _ _ h => h) (Or.inl ⟨by rfl, fun W hW => by go_simp <;> with_reducible rfl⟩) HS.out ?_
    go_simp
    refine wpAnyH_take (i := 16) (v := ?_) rfl (by kernel_rfl) (by kernel_rfl) (by kernel_rfl) (fun _ _ _ h => h) (Or.inl ⟨by rfl, fun W hW => by go_simp <;> with_reducible rfl⟩) HS.out ?_
    go_simp
    refine wpAnyH_take (i := 17) (v := ?_) rfl (by kernel_rfl) (by kernel_rfl) (by kernel_rfl) (fun _ _ _ h => h) (Or.inl ⟨by rfl, fun W hW => by go_simp <;> with_reducible rfl⟩) HS.out ?_
    go_simp
    refine wpAnyH_take (i := 18) (v := ?_) rfl (by kernel_rfl) (by kernel_rfl) (by kernel_rfl) (fun _ _ _ h => h) (Or.inl ⟨by rfl, fun W hW => by go_simp <;> with_reducible rfl⟩) HS.out ?_
    go_simp
    refine wpAnyH_take (i := 19) (v := ?_) rfl (by kernel_rfl) (by kernel_rfl) (by kernel_rfl) (fun _ _ _ h => h) (Or.inl ⟨by rfl, fun W hW => by go_simp <;> with_reducible rfl⟩) HS.out ?_
    go_simp
    refine wpAnyH_take (i := 20) (v := ?_) rfl (by kernel_rfl) (by kernel_rfl) (by kernel_rfl) (fun _ _ _ h => h) (Or.inl ⟨by rfl, fun W hW => by go_simp <;> with_reducible rfl⟩) HS.out ?_
    go_simp
    refine wpAnyH_take (i := 21) (v := ?_) rfl (by kernel_rfl) (by kernel_rfl) (by kernel_rfl) (fun _ _ _ h => h) (Or.inl ⟨by rfl, fun W hW => by go_simp <;> with_reducible rfl⟩) HS.out ?_
    go_simp
    refine wpAnyH_take (i := 22) (v := ?_) rfl (by kernel_rfl) (by kernel_rfl) (by kernel_rfl) (fun _ _ _ h => h) (Or.inl ⟨by rfl, fun W hW => by go_simp <;> with_reducible rfl⟩) HS.out ?_
    go_simp
    refine wpAnyH_take (i := 23) (v := ?_) rfl (by kernel_rfl) (by kernel_rfl) (by kernel_rfl) (fun _ _ _ h => h) (Or.inl ⟨by rfl, fun W hW => by go_simp <;> with_reducible rfl⟩) HS.out ?_
    go_simp
    refine wpAnyH_take (i := 24) (v := ?_) rfl (by kernel_rfl) (by kernel_rfl) (by kernel_rfl) (fun _ _ _ h => h) (Or.inl ⟨by rfl, fun W hW => by go_simp <;> with_reducible rfl⟩) HS.out ?_
    go_simp
    refine wpAnyH_take (i := 25) (v := ?_) rfl (by kernel_rfl) (by kernel_rfl) (by kernel_rfl) (fun _ _ _ h => h) (Or.inl ⟨by rfl, fun W hW => by go_simp <;> with_reducible rfl⟩) HS.out ?_
    go_simp
    refine wpAnyH_take (i := 26) (v := ?_) rfl (by kernel_rfl) (by kernel_rfl) (by kernel_rfl) (fun _ _ _ h => h) (Or.inl ⟨by rfl, fun W hW => by go_simp <;> with_reducible rfl⟩) HS.out ?_
    go_simp
    refine wpAnyH_take (i := 27) (v := ?_) rfl (by kernel_rfl) (by kernel_rfl) (by kernel_rfl) (fun _ _ _ h => h) (Or.inl ⟨by rfl, fun W hW => by go_simp <;> with_reducible rfl⟩) HS.out ?_
    go_simp
    refine wpAnyH_take (i := 28) (v := ?_) rfl (by kernel_rfl) (by kernel_rfl) (by kernel_rfl) (fun _ _ _ h => h) (Or.inl ⟨by rfl, fun W hW => by go_simp <;> with_reducible rfl⟩) HS.out ?_
    go_simp
    refine wpAnyH_ready (rs := [29]) (by kernel_rfl) (by simp) (AllReadyH.cons rfl (fun K hK => ?_) AllReadyH.nil)
    go_simp
    refine (lives31_any _ HS.out.1.2.1).mono ?_
    rintro e w7 ⟨rfl, hb7⟩
    dsimp only
    have HS' := Lib.hid (HS.out.step hb7)
    clear HS; have HS := HS'; clear HS'
    clear hb7
    refine hK.out _ _ HS.out (fun _ => ?_)
    clear hK K
    refine wpAnyH_take (i := 30) (v := ?_) rfl (by kernel_rfl) (by kernel_rfl) (by kernel_rfl) (fun _ _ _ h => h) (Or.inl ⟨by rfl, fun W hW => by go_simp <;> with_reducible rfl⟩) HS.out ?_
    go_simp
    refine wpAnyH_take (i := 31) (v := ?_) rfl (by kernel_rfl) (by kernel_rfl) (by kernel_rfl) (fun _ _ _ h => h) (Or.inl ⟨by rfl, fun W hW => by go_simp <;> with_reducible rfl⟩) HS.out ?_
    go_simp
    refine wpAnyH_done (by kernel_rfl) ?_ _
    go_wp2_with fail
    go_ret
    exact ⟨rfl, HB.out.trans (HS.out.1.1.mono HB.out.size)⟩
end Go.Proofs.YtchhenpijbecaaaDoor
