/- layer 33 (fair): Draws. -/
import Derived.Test.YtogplndhciaoeaaFe
namespace Go.Proofs.Ytogplndhciaoeaa
open Go.RowKit
set_option maxRecDepth 100000

/-- a state's number. -/
def mixF (z : Int) : Int :=
  let y := IntKind.u64.wrap (bits BinOp.xor IntKind.u64 z (z / 1073741824) * 13787848793156543929)
  let x := IntKind.u64.wrap (bits BinOp.xor IntKind.u64 y (y / 134217728) * 10723151780598845931)
  bits BinOp.xor IntKind.u64 x (x / 2147483648)
/-- the state behind k numbers. -/
def stF (s : Int) : Nat → Int
  | 0 => s
  | k + 1 => IntKind.u64.wrap (stF s k + 11400714819323198485)
/-- the first k numbers. -/
def drawsL (s : Int) (k : Nat) : List Int := (List.range k).map fun i => mixF (stF s (i + 1))
theorem drawsL_succ (s : Int) (k : Nat) : drawsL s (k + 1) = drawsL s k ++ [mixF (stF s (k + 1))] := by unfold drawsL; rw [List.range_succ, List.map_append]; rfl
theorem drawsL_len (s : Int) (k : Nat) : (drawsL s k).length = k := by simp [drawsL]
theorem mix_any (z : Int) (w : World) : Calls Try.prog 31 #[.int .u64 z] w fun e w' => e = .returned (.int .u64 (mixF z)) ∧ w = w' := by
  go_enter Try.func31, Try.ntmps31
  go_wp2_with fail
  go_ret
  exact ⟨rfl, rfl⟩
theorem infoU : (Try.prog.info? 22).map (fun i => (i.zero, i.size, i.bytes)) = some (some (.int .u64 0), 1, 8) := by kernel_rfl
/-- a row of unsigned numbers of the call's own. -/
abbrev OwnU (B : Nat) (w : World) (v : Value) (l : List Int) : Prop := w.ownsRow B 22 1 v l.length (l.map (Value.int .u64))
theorem app_u {ops : Array Oper} {rest : List Oper} {o : Oper} {a : Act} {w : World} {Q : Exit → Act → World → Prop} (hgd : o.guard = none) (s x : Operand) (ho : o.op = .call { callee := .builtin .append, args := #[s, x], argTypes := #[25, 25] })
    (B : Nat) (v : Value) (l : List Int) (hs : a.eval s = v) (h : OwnU B w v l) (g cap : Nat) (z : Int) (hx : a.eval x = .slice (some ⟨g, 0, none⟩) 1 cap) (hc : w.cell? ⟨g, 0, none⟩ = some (.int .u64 z)) (hl : l.length ≤ 100000) (hB : B ≤ w.heap.size)
    (K : ∀ v' w', OwnU B w' v' (l ++ [z]) → w.grownBy w' v.ownBlock → wpList Try.prog ops Q rest (a.put o.dst v') w') : wpList Try.prog ops Q (o :: rest) a w := by
  obtain ⟨i0, hi0, hz0, hz1, hz2⟩ := info_partsN infoU
  have hadd : ∀ (b off j : Nat), (⟨b, off, none⟩ : Addr).add j = ⟨b, off + j, none⟩ := fun b off j => by unfold Addr.add; split <;> simp_all
  have hnew : ∀ j u, [Value.int .u64 z][j]? = some u → w.cell? ((⟨g, 0, none⟩ : Addr).add j) = some u := fun j u hu => by
    match j, hu with
    | 0, hu => simp at hu; subst hu; exact hc
  refine wpList_append_own w hgd s x 25 ho B 22 i0 (.int .u64 0) 1 8 Try.underlying25 hi0 hz0 hz1 hz2 rfl (by decide) v l.length _ hs h ⟨g, 0, none⟩ 1 cap [.int .u64 z] hx rfl hnew (by intro u hu; simp at hu; subst hu; rfl) (by unfold maxLen; omega) (by omega) hB ?_
  intro v' w' h1 h2 _
  exact K v' w' (by unfold OwnU; rw [List.length_append, List.map_append]; exact h1) h2
set_option maxHeartbeats 4000000 in
theorem draws_any (s n : Int) (N : Nat) (hN : (min n 4096).toNat = N) (w : World) :
    Calls Try.prog 8 #[.int .u64 s, .int .i64 n] w fun e w' => ∃ v, e = .returned v ∧ OwnU w.heap.size w' v (drawsL s N) ∧ Below w.heap.size w w' := by
  have hN' : (n ≤ 4096 ∧ n.toNat = N) ∨ (4096 < n ∧ 4096 = N) := by
    rw [Int.min_def] at hN
    split at hN
    · exact .inl ⟨by omega, hN⟩
    · exact .inr ⟨by omega, by omega⟩
  clear hN
  go_enter Try.func8, Try.ntmps8
  rcases hN' with ⟨hn, hN⟩ | ⟨hn, hN⟩
  all_goals
    go_wp2_with fail
    go_loopw [0, 5, 8] (fun sv rv iv wr => ∃ k : Nat, sv = .int .u64 (stF s k) ∧ iv = .int .i64 k ∧ k ≤ N ∧ OwnU w.heap.size wr rv (drawsL s k) ∧ Below w.heap.size w wr) (fun _ _ iv _ => N - (intOf iv).toNat)
    case atStart => exact ⟨0, rfl, rfl, Nat.zero_le _, World.ownsRow_nil _ _ _ _, Below.refl _ _⟩
    case round =>
      obtain ⟨k, rfl, rfl, hk, ho, hb⟩ := hrel
      have HO := Lib.hid ho; have HB := Lib.hid hb
      clear ho hb
      by_cases hlt : k < N
      · have k1 : (k : Int) < n := by omega
        have k2 : (k : Int) < 4096 := by omega
        have HLL : Hid ((drawsL s k).length ≤ 100000) := by show _ ≤ _; rw [drawsL_len]; omega
        have HD : Hid (drawsL s (k + 1) = drawsL s k ++ [mixF (IntKind.u64.wrap (stF s k + 11400714819323198485))]) := drawsL_succ s k
        have HZ : Hid (stF s (k + 1) = IntKind.u64.wrap (stF s k + 11400714819323198485)) := rfl
        generalize stF s k = z at *
        have HMX := Lib.hid (mix_any (IntKind.u64.wrap (z + 11400714819323198485)) wr)
        generalize mixF (IntKind.u64.wrap (z + 11400714819323198485)) = y at *
        clear hn hN
        go_wp2_with (first
          | (go_at_call 31; (with_reducible refine HMX.out.mono ?_); rintro e w3 ⟨rfl, rfl⟩)
          | (with_reducible (show wpList _ _ _ _ _ _); refine app_u rfl (.tmp 12) (.tmp 15) rfl w.heap.size _ (drawsL s k) rfl (HO.out.alloc _) wr.heap.size 1 y rfl ((Blk.new wr _ _).cell 0) HLL.out (by have := HB.out.size; simp; omega) ?_; intro v5 w5 ho5 hg5; have HO5 := Lib.hid ho5; have HG5 := Lib.hid hg5; clear ho5 hg5))
        go_roundw
        case rel =>
          refine ⟨k + 1, by rw [HZ.out], rfl, by omega, by rw [HD.out]; exact HO5.out, ?_⟩
          have h1 : Below w.heap.size w (wr.alloc (.cells #[.int .u64 y] 22)) := HB.out.alloc HB.out.size _
          exact h1.grown HG5.out (by simp; have := HB.out.size; omega) (fun r e => (HO.out.lt r e).1)
        case measure => simp [intOf]; omega
      · obtain rfl : k = N := by omega
        first
          | (have tk : ¬ (k : Int) < n := by omega
             clear hN
             go_wp2_with fail)
          | (have tk : ¬ (k : Int) < 4096 := by omega
             clear hN
             go_wp2_with fail)
        go_ret
        exact ⟨_, rfl, HO.out, HB.out⟩
end Go.Proofs.Ytogplndhciaoeaa
