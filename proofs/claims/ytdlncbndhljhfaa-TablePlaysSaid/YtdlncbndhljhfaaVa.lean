/- A table's In and Count (layer 12). -/
import Derived.Test.YtdlncbndhljhfaaTw
namespace Go.Proofs.Ytdlncbndhljhfaa
open Go.RowKit

/-- The numbers of those in that state with that On. -/
def inL (ts : List (List Value)) (s o : Int) : Nat → List Int
  | 0 => []
  | n + 1 => inL ts s o n ++ (match ts[n]? with
    | some x => if fld x 25 = s ∧ fld x 26 = o then [(n : Int)] else []
    | none => [])
theorem inL_len (ts : List (List Value)) (s o : Int) : ∀ n, (inL ts s o n).length ≤ n
  | 0 => Nat.le_refl _
  | n + 1 => by
    rw [inL, List.length_append]
    have := inL_len ts s o n
    split
    · split <;> simp <;> omega
    · simp; omega
def coL (ts : List (List Value)) (s : Int) : Nat → Nat
  | 0 => 0
  | n + 1 => coL ts s n + (match ts[n]? with
    | some x => if fld x 25 = s then 1 else 0
    | none => 0)
theorem coL_le (ts : List (List Value)) (s : Int) : ∀ n, coL ts s n ≤ n
  | 0 => Nat.le_refl _
  | n + 1 => by
    rw [coL]
    have := coL_le ts s n
    split
    · split <;> omega
    · omega
section
variable {b c gl gn room : Nat} {v : Value} {ts : List (List Value)} {ls : Nat → List Nat} {w : World}
set_option maxRecDepth 100000 in
set_option maxHeartbeats 8000000 in
theorem tcount_any (s : Int) (h : TabC b c gl gn v room ts ls w) :
    Calls Try.prog 26 #[.pointer (some ⟨b, 0, none⟩), .int .i64 s] w fun e w' => e = .returned (.int .i64 (coL ts s ts.length)) ∧ w = w' := by
  have HL := Lib.hid (tlen_any h)
  have hle := h.le; have hlim := h.lim
  have HT := Lib.hid h
  obtain ⟨n, hn⟩ : ∃ n, ts.length = n := ⟨_, rfl⟩
  have HN := Lib.hid hn
  rw [hn] at HL hle ⊢
  clear h hn
  go_enter Try.func26, Try.ntmps26
  go_wp2_with (go_at_call 23; (with_reducible refine HL.out.mono ?_); rintro e wq ⟨rfl, rfl⟩)
  go_loopw [5, 9] (fun l i wr => ∃ k : Nat, l = .int .i64 (coL ts s k : Nat) ∧ i = .int .i64 k ∧ k ≤ n ∧ w = wr) (fun _ i _ => n - (intOf i).toNat)
  case atStart => exact ⟨0, rfl, rfl, Nat.zero_le _, rfl⟩
  case round =>
    obtain ⟨k, rfl, rfl, hk, rfl⟩ := hrel
    by_cases hlt : k < n
    · obtain ⟨x, hx⟩ : ∃ x, ts[k]? = some x := ⟨_, List.getElem?_eq_getElem (by rw [HN.out]; exact hlt)⟩
      obtain ⟨g, cap, hv, hr, ho⟩ := HT.out.at_ hx
      have c1 := HT.out.cells.2.1
      rw [hv, HN.out] at c1
      have y := hr 25 _ (ho.get (by omega))
      rw [show kindT 25 = .i64 from rfl] at y
      have hco : coL ts s (k + 1) = coL ts s k + (if fld x 25 = s then 1 else 0) := by rw [coL, hx]
      have HCO := Lib.hid hco
      have hcl := coL_le ts s k
      have k0 : (0 : Int) ≤ (k : Int) := by omega
      have k1 : (k : Int) < (n : Int) := by omega
      clear hx hv hr ho hco
      generalize fld x 25 = f at *
      generalize coL ts s k = m at *
      by_cases hf : f = s
      · subst hf
        rw [if_pos rfl] at HCO
        have t : (f == f) = true := by simp
        go_wp2_with fail
        go_roundw
        case rel => exact ⟨k + 1, by rw [HCO.out]; go_num, by go_num, by omega, by first | rfl | trivial⟩
        case measure => simp [intOf]; omega
      · rw [if_neg hf, Nat.add_zero] at HCO
        have t : (f == s) = false := by simpa using hf
        go_wp2_with fail
        go_roundw
        case rel => exact ⟨k + 1, by rw [HCO.out]; rfl, by go_num, by omega, by first | rfl | trivial⟩
        case measure => simp [intOf]; omega
    · obtain rfl : k = n := by omega
      have t : ¬ (k : Int) < (k : Int) := by omega
      go_wp2_with fail
      go_ret
      exact ⟨rfl, rfl⟩
set_option maxRecDepth 100000 in
set_option maxHeartbeats 8000000 in
theorem tin_any (s o : Int) (h : TabC b c gl gn v room ts ls w) :
    Calls Try.prog 25 #[.pointer (some ⟨b, 0, none⟩), .int .i64 s, .int .i64 o] w fun e w' => ∃ u, e = .returned u ∧ MineN w.heap.size u (inL ts s o ts.length) w' ∧ Below w.heap.size w w' := by
  have HL := Lib.hid (tlen_any h)
  have hle := h.le; have hlim := h.lim
  have HT := Lib.hid h
  obtain ⟨n, hn⟩ : ∃ n, ts.length = n := ⟨_, rfl⟩
  have HN := Lib.hid hn
  rw [hn] at HL hle ⊢
  clear h hn
  go_enter Try.func25, Try.ntmps25
  go_wp2_with (go_at_call 23; (with_reducible refine HL.out.mono ?_); rintro e wq ⟨rfl, rfl⟩)
  go_loopw [7, 12] (fun l i wr => ∃ (k : Nat) (u : Value), u = l ∧ i = .int .i64 k ∧ k ≤ n ∧ MineN w.heap.size u (inL ts s o k) wr ∧ Below w.heap.size w wr) (fun _ i _ => n - (intOf i).toNat)
  case atStart => exact ⟨0, _, rfl, rfl, Nat.zero_le _, mineN_nil _ _, Below.refl _ _⟩
  case round =>
    obtain ⟨k, u, rfl, rfl, hk, hm, hb⟩ := hrel
    have HM := Lib.hid hm; have HB := Lib.hid hb
    clear hm hb
    by_cases hlt : k < n
    · obtain ⟨x, hx⟩ : ∃ x, ts[k]? = some x := ⟨_, List.getElem?_eq_getElem (by rw [HN.out]; exact hlt)⟩
      have ht := HT.out.below HB.out
      obtain ⟨g, cap, hv, hr, ho⟩ := ht.at_ hx
      have c1 := ht.cells.2.1
      rw [hv, HN.out] at c1
      have HR := Lib.hid hr
      have HI := Lib.hid (infoT.trans (congrArg some ho.len.symm))
      have hxl := ho.len
      have hst := run_storeCells_new (P := Try.prog) wr 38 #[.int .i64 0, .int .i64 0, .int .i32 0, .int .i32 0, .int .i32 0, .int .i32 0, .int .i64 0, .int .u64 0, .int .u64 0, .int .u64 0, .int .u64 0, .int .u64 0, .int .u64 0, .int .u64 0, .int .u64 0, .int .u64 0, .int .u64 0, .int .u64 0, .int .u64 0, .int .u64 0, .int .u64 0, .int .u64 0, .int .u64 0, .int .i64 0, .int .i64 0, .int .i64 0, .int .i64 0, .int .i64 0, .int .i64 0] x.toArray (infoT.trans (congrArg some (by rw [List.size_toArray, hxl]))) (Eq.trans (show _ = 29 from rfl) (by rw [List.size_toArray, hxl])) (all_oneCell_toArray ho.one)
      have hal : Below wr.heap.size wr (wr.alloc (.cells x.toArray 38)) := (Below.refl _ _).alloc (Nat.le_refl _) _
      have HMX := Lib.hid (HM.out.on hal)
      have HBX := Lib.hid (HB.out.trans (hal.mono HB.out.size))
      have y25 : (wr.alloc (.cells x.toArray 38)).cell? ⟨wr.heap.size, 25, none⟩ = some (.int .i64 (fld x 25)) := (BT.new wr x).cell ho (by omega : 25 < 29)
      have y26 : (wr.alloc (.cells x.toArray 38)).cell? ⟨wr.heap.size, 26, none⟩ = some (.int .i64 (fld x 26)) := (BT.new wr x).cell ho (by omega : 26 < 29)
      have hin : inL ts s o (k + 1) = inL ts s o k ++ (if fld x 25 = s ∧ fld x 26 = o then [(k : Int)] else []) := by rw [inL, hx]
      have HIN := Lib.hid hin
      have hil := inL_len ts s o k
      have k0 : (0 : Int) ≤ (k : Int) := by omega
      have k1 : (k : Int) < (n : Int) := by omega
      clear hx hv hr ho ht hal hin HM HB
      generalize fld x 25 = f at *
      generalize fld x 26 = q at *
      go_upto_region 6 with (with_reducible (show wpList _ _ _ _ _ _); refine wpList_load_mid rfl 38 (.tmp 20) rfl g (k * 29) rfl x _ HR.out Try.underlying38 rfl HI.out ?_)
      clear hst hxl c1 HR HI
      generalize wr.alloc (.cells x.toArray 38) = W1 at *
      generalize wr.heap.size = xb at *
      by_cases hf : f = s
      · subst hf
        have t : (f == f) = true := by simp
        by_cases hq : q = o
        · subst hq
          have t2 : (q == q) = true := by simp
          rw [if_pos ⟨rfl, rfl⟩] at HIN
          have ha : Below W1.heap.size W1 (W1.alloc (.cells #[.int .i64 k] 3)) := (Below.refl _ _).alloc (Nat.le_refl _) _
          have HM8 := Lib.hid (HMX.out.on ha)
          have HB8 := Lib.hid (HBX.out.trans (ha.mono HBX.out.size))
          have hbk := (Blk.new W1 3 #[.int .i64 k]).cell 0
          simp only [List.getElem?_toArray, List.getElem?_cons_zero] at hbk
          have HBS := Lib.hid hbk
          clear ha hbk
          go_wp2_with (at_builtin; refine haltM ?_)
          refine Lib.hid ?_
          refine app_mine rfl (.tmp 32) (.tmp 34) rfl w.heap.size u (inL ts f q k) rfl HM8.out _ k rfl HBS.out (by omega) HB8.out.size ?_
          intro u' w9 own9 b9
          have HM9 : Hid (MineN w.heap.size u' (inL ts f q (k + 1)) w9) := by
            show MineN _ _ _ _
            rw [HIN.out]; exact own9
          have HB9 := Lib.hid (HB8.out.trans b9)
          clear own9 b9 HM8 HB8 HBS
          go_wp2_with fail
          go_roundw
          case rel => exact ⟨k + 1, u', rfl, by go_num, by omega, HM9.out, HB9.out⟩
          case measure => simp [intOf]; omega
        · have t2 : (q == o) = false := by simpa using hq
          rw [if_neg (fun h => hq h.2), List.append_nil] at HIN
          have HM9 : Hid (MineN w.heap.size u (inL ts f o (k + 1)) W1) := by
            show MineN _ _ _ _
            rw [HIN.out]; exact HMX.out
          clear hq
          go_wp2_with fail
          go_roundw
          case rel => exact ⟨k + 1, u, rfl, by go_num, by omega, HM9.out, HBX.out⟩
          case measure => simp [intOf]; omega
      · have t : (f == s) = false := by simpa using hf
        rw [if_neg (fun h => hf h.1), List.append_nil] at HIN
        have HM9 : Hid (MineN w.heap.size u (inL ts s o (k + 1)) W1) := by
          show MineN _ _ _ _
          rw [HIN.out]; exact HMX.out
        clear hf
        go_wp2_with fail
        go_roundw
        case rel => exact ⟨k + 1, u, rfl, by go_num, by omega, HM9.out, HBX.out⟩
        case measure => simp [intOf]; omega
    · obtain rfl : k = n := by omega
      have t : ¬ (k : Int) < (k : Int) := by omega
      go_wp2_with fail
      go_ret
      exact ⟨u, rfl, HM.out, HB.out⟩
end
end Go.Proofs.Ytdlncbndhljhfaa
