/- The document's step of layer 10: what lies in memory on its way. -/
import Derived.Test.YtilaalleiiakoaaDoorE0
import Derived.Test.YtilaalleiiakoaaDoorRi
namespace Go.Proofs.YtilaalleiiakoaaDoor
open Go.RowKit

structure Four (w W : World) (prio : Int) (A : Option Addr) (n cap : Nat) (r : R4) : Prop where
  below : Below w.heap.size w W
  p : Blk W w.heap.size 53 #[.int .i64 prio, .slice A n cap]
  q : Blk W (w.heap.size + 1) 43 #[.int .i32 r.a, .int .i32 r.b, .int .i32 r.c, .int .i32 r.d]
  z : Blk W (w.heap.size + 1 + 1) 43 #[.int .i32 0, .int .i32 0, .int .i32 0, .int .i32 0]
  f : Blk W (w.heap.size + 1 + 1 + 1) 61 #[.int .i64 0, .int .i64 0, .int .i32 0]
theorem Four.new (w : World) (prio : Int) (A : Option Addr) (n cap : Nat) (r : R4) : Four w ((((w.alloc (.cells #[.int .i64 prio, .slice A n cap] 53)).alloc (.cells #[.int .i32 r.a, .int .i32 r.b, .int .i32 r.c, .int .i32 r.d] 43)).alloc (.cells #[.int .i32 0, .int .i32 0, .int .i32 0, .int .i32 0] 43)).alloc (.cells #[.int .i64 0, .int .i64 0, .int .i32 0] 61)) prio A n cap r := by
  have h0 := Blk.new w 53 #[.int .i64 prio, .slice A n cap]
  have h1 := Blk.new (w.alloc (.cells #[.int .i64 prio, .slice A n cap] 53)) 43 #[.int .i32 r.a, .int .i32 r.b, .int .i32 r.c, .int .i32 r.d]
  have h2 := Blk.new ((w.alloc (.cells #[.int .i64 prio, .slice A n cap] 53)).alloc (.cells #[.int .i32 r.a, .int .i32 r.b, .int .i32 r.c, .int .i32 r.d] 43)) 43 #[.int .i32 0, .int .i32 0, .int .i32 0, .int .i32 0]
  have h3 := Blk.new (((w.alloc (.cells #[.int .i64 prio, .slice A n cap] 53)).alloc (.cells #[.int .i32 r.a, .int .i32 r.b, .int .i32 r.c, .int .i32 r.d] 43)).alloc (.cells #[.int .i32 0, .int .i32 0, .int .i32 0, .int .i32 0] 43)) 61 #[.int .i64 0, .int .i64 0, .int .i32 0]
  simp only [World.size_alloc] at h1 h2 h3
  exact ⟨((((Below.refl _ _).alloc (Nat.le_refl _) _).alloc (by simp) _).alloc (by simp; omega) _).alloc (by simp; omega) _, ((h0.alloc _).alloc _).alloc _, (h1.alloc _).alloc _, h2.alloc _, h3⟩
theorem Four.on {w W W' : World} {prio : Int} {A : Option Addr} {n cap : Nat} {r : R4} (h : Four w W prio A n cap r) (hb : Below W.heap.size W W') : Four w W' prio A n cap r :=
  ⟨h.below.trans (hb.mono h.below.size), h.p.below hb h.p.lt, h.q.below hb h.q.lt, h.z.below hb h.z.lt, h.f.below hb h.f.lt⟩
theorem Four.cells {w W : World} {prio : Int} {A : Option Addr} {n cap : Nat} {r : R4} (h : Four w W prio A n cap r) :
    W.cell? ⟨w.heap.size, 0, none⟩ = some (.int .i64 prio) ∧ W.cell? ⟨w.heap.size, 1, none⟩ = some (.slice A n cap) ∧
    W.cell? ⟨w.heap.size + 1, 0, none⟩ = some (.int .i32 r.a) ∧ W.cell? ⟨w.heap.size + 1, 1, none⟩ = some (.int .i32 r.b) ∧ W.cell? ⟨w.heap.size + 1, 2, none⟩ = some (.int .i32 r.c) ∧ W.cell? ⟨w.heap.size + 1, 3, none⟩ = some (.int .i32 r.d) ∧
    W.cell? ⟨w.heap.size + 1 + 1, 0, none⟩ = some (.int .i32 0) ∧ W.cell? ⟨w.heap.size + 1 + 1, 1, none⟩ = some (.int .i32 0) ∧ W.cell? ⟨w.heap.size + 1 + 1, 2, none⟩ = some (.int .i32 0) ∧ W.cell? ⟨w.heap.size + 1 + 1, 3, none⟩ = some (.int .i32 0) ∧
    W.cell? ⟨w.heap.size + 1 + 1 + 1, 0, none⟩ = some (.int .i64 0) ∧ W.cell? ⟨w.heap.size + 1 + 1 + 1, 1, none⟩ = some (.int .i64 0) ∧ W.cell? ⟨w.heap.size + 1 + 1 + 1, 2, none⟩ = some (.int .i32 0) ∧ w.heap.size + 1 + 1 + 1 < W.heap.size :=
  ⟨h.p.cell 0, h.p.cell 1, h.q.cell 0, h.q.cell 1, h.q.cell 2, h.q.cell 3, h.z.cell 0, h.z.cell 1, h.z.cell 2, h.z.cell 3, h.f.cell 0, h.f.cell 1, h.f.cell 2, h.f.lt⟩
theorem Four.frees {w W : World} {prio : Int} {A : Option Addr} {n cap : Nat} {r : R4} (h : Four w W prio A n cap r) :
    (∀ i, W.frozen? ⟨w.heap.size + 1, i, none⟩ = false) ∧ (∀ i, W.frozen? ⟨w.heap.size + 1 + 1, i, none⟩ = false) ∧ (∀ i, W.frozen? ⟨w.heap.size + 1 + 1 + 1, i, none⟩ = false) :=
  ⟨fun i => h.q.free i, fun i => h.z.free i, fun i => h.f.free i⟩
structure Six (w W : World) (prio : Int) (A : Option Addr) (n cap : Nat) (r : R4) (x : I4) (B : Nat) : Prop where
  four : Four w W prio A n cap r
  x : Blk W B 59 #[.int .i64 x.op, .int .i64 x.a, .int .i64 x.b, .int .i32 x.n]
  e : Blk W (B + 1) 61 #[.int .i64 0, .int .i64 0, .int .i32 0]
  lt : w.heap.size + 1 + 1 + 1 < B
theorem Six.new {w w2 : World} {prio : Int} {A : Option Addr} {n cap : Nat} {r : R4} (h : Four w w2 prio A n cap r) (x : I4) :
    Six w ((w2.alloc (.cells #[.int .i64 x.op, .int .i64 x.a, .int .i64 x.b, .int .i32 x.n] 59)).alloc (.cells #[.int .i64 0, .int .i64 0, .int .i32 0] 61)) prio A n cap r x w2.heap.size := by
  have h1 := Blk.new (w2.alloc (.cells #[.int .i64 x.op, .int .i64 x.a, .int .i64 x.b, .int .i32 x.n] 59)) 61 #[.int .i64 0, .int .i64 0, .int .i32 0]
  rw [World.size_alloc] at h1
  exact ⟨h.on (((Below.refl _ _).alloc (Nat.le_refl _) _).alloc (by simp) _), (Blk.new _ _ _).alloc _, h1, h.f.lt⟩
theorem Six.drew {w W : World} {prio : Int} {A : Option Addr} {n cap : Nat} {r : R4} {x : I4} {B : Nat} (h : Six w W prio A n cap r x B) : Six w W.drew prio A n cap r x B :=
  ⟨h.four.on ⟨rfl, rfl, rfl, Nat.le_refl _, fun _ _ => rfl⟩, h.x, h.e, h.lt⟩
theorem Six.cells {w W : World} {prio : Int} {A : Option Addr} {n cap : Nat} {r : R4} {x : I4} {B : Nat} (h : Six w W prio A n cap r x B) :
    W.cell? ⟨B, 0, none⟩ = some (.int .i64 x.op) ∧ W.cell? ⟨B, 1, none⟩ = some (.int .i64 x.a) ∧ W.cell? ⟨B, 2, none⟩ = some (.int .i64 x.b) ∧ W.cell? ⟨B, 3, none⟩ = some (.int .i32 x.n) ∧
    W.cell? ⟨B + 1, 0, none⟩ = some (.int .i64 0) ∧ W.cell? ⟨B + 1, 1, none⟩ = some (.int .i64 0) ∧ W.cell? ⟨B + 1, 2, none⟩ = some (.int .i32 0) ∧ B + 1 < W.heap.size ∧ (∀ i, W.frozen? ⟨B + 1, i, none⟩ = false) ∧ w.heap.size + 1 + 1 + 1 < B :=
  ⟨h.x.cell 0, h.x.cell 1, h.x.cell 2, h.x.cell 3, h.e.cell 0, h.e.cell 1, h.e.cell 2, h.e.lt, fun i => h.e.free i, h.lt⟩


theorem tmod_pos {n : Int} (h : 0 ≤ n) : n.tmod 4294967296 = n % 4294967296 := Int.tmod_eq_emod_of_nonneg h
theorem tmod_any (n : Int) : (0 ≤ n ∧ n.tmod 4294967296 = n % 4294967296) ∨ (n < 0 ∧ n.tmod 4294967296 = -((-n) % 4294967296)) := by
  by_cases h : 0 ≤ n
  · exact .inl ⟨h, tmod_pos h⟩
  · refine .inr ⟨by omega, ?_⟩
    have e : n.tmod 4294967296 = -((-n).tmod 4294967296) := by rw [Int.neg_tmod, Int.neg_neg]
    rw [e, tmod_pos (by omega)]
theorem round_mod (n : Int) : (wrap64 (n.tmod 4294967296 + 4294967296)).tmod 4294967296 = n % 4294967296 := by
  have h := tmod_any n
  have e : wrap64 (n.tmod 4294967296 + 4294967296) = n.tmod 4294967296 + 4294967296 := by unfold wrap64; omega
  rw [e, tmod_pos (by omega)]
  omega
set_option maxHeartbeats 1000000 in
theorem round_any (n : Int) (w : World) :
    Calls Tryd.prog 34 #[.int .i64 n] w fun e w' => e = .returned (.int .i32 (word32 n)) ∧ w = w' := by
  have hm := round_mod n
  by_cases h : 2147483648 ≤ n % 4294967296
  · have he : word32 n = wrap32 (wrap64 (n % 4294967296 - 4294967296)) := by
      unfold word32 wrap32 wrap64; rw [if_pos h]; omega
    rw [he]
    clear he
    generalize n % 4294967296 = m at *
    go_enter Tryd.func34, Tryd.ntmps34
    go_wp2
    go_ret
    exact ⟨rfl, rfl⟩
  · have he : word32 n = wrap32 (n % 4294967296) := by
      unfold word32 wrap32; rw [if_neg h]; omega
    rw [he]
    have h' : ¬ 2147483648 ≤ n % 4294967296 := h
    clear he h
    generalize n % 4294967296 = m at *
    go_enter Tryd.func34, Tryd.ntmps34
    go_wp2
    go_ret
    exact ⟨rfl, rfl⟩
end Go.Proofs.YtilaalleiiakoaaDoor
