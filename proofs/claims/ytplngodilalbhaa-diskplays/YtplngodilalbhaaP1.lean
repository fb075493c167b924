/- The disk and the reference's disk, side by side. -/
import Derived.Test.YtplngodilalbhaaR8
import Derived.Test.YtplngodilalbhaaW2
namespace Go.Proofs.Ytplngodilalbhaa
open Go.RowKit Go.Shelf
theorem op_pair {fuse arm : Int} {down : Bool} (ops : Int) (h : down = true ∨ arm = fuse) (hf : fuse ≤ 9223372036854775807) :
    (∃ f' o' a', opF fuse down ops = (0, f', false, o') ∧ opR arm down ops = (true, a', false, o') ∧ a' = f' ∧ f' ≤ 9223372036854775807 ∧ ops ≤ o' ∧ o' ≤ ops + 1) ∨
    (∃ f' o' a', opF fuse down ops = (17, f', true, o') ∧ opR arm down ops = (false, a', true, o') ∧ f' ≤ 9223372036854775807 ∧ a' ≤ 9223372036854775807 ∧ ops ≤ o' ∧ o' ≤ ops + 1) := by
  unfold opF opR
  cases down with
  | true =>
    right
    by_cases h1 : fuse = 1
    · rw [if_pos h1, if_pos (.inl rfl)]; exact ⟨_, _, _, rfl, rfl, by omega, by omega, by omega, by omega⟩
    · rw [if_neg h1, if_pos rfl, if_pos (.inl rfl)]; exact ⟨_, _, _, rfl, rfl, hf, by omega, by omega, by omega⟩
  | false =>
    obtain rfl : arm = fuse := h.resolve_left (by decide)
    by_cases h1 : arm = 1
    · right
      rw [if_pos h1, if_pos (.inr h1)]; exact ⟨_, _, _, rfl, rfl, by omega, by omega, by omega, by omega⟩
    · left
      by_cases h2 : 0 < arm
      · simp only [if_neg h1, if_pos h2, Bool.false_eq_true, if_false, false_or]; exact ⟨_, _, _, rfl, rfl, rfl, by omega, by omega, by omega⟩
      · simp only [if_neg h1, if_neg h2, Bool.false_eq_true, if_false, false_or]; exact ⟨_, _, _, rfl, rfl, rfl, hf, by omega, by omega⟩
/-- A disk and the reference's disk that agree. -/
def St (K : Nat → Prop) (w : World) (n c d : Nat) (sa : Option Addr) (sn : Nat) (wa : Option Addr) (wn wc : Nat) (arm : Int) (dead : Bool) (ops : Int) (S : List ByteArray) (P : List (Int × ByteArray)) : Prop :=
  ∃ sb pv fuse, Disk K w d sb S pv P fuse dead ops ∧ Ref K w sa sn wa wn wc S P ∧ S.length = n ∧ Fits P n ∧ P.length ≤ c ∧ (dead = true ∨ arm = fuse) ∧ fuse ≤ 9223372036854775807 ∧ arm ≤ 9223372036854775807 ∧ 0 ≤ ops ∧ ops ≤ c
/-- What one act leaves. -/
def OneRet (K : Nat → Prop) (n c : Nat) (w : World) (e : Ending) (w' : World) : Prop :=
  ∃ (L : Nat → Prop) (d : Nat) (sa : Option Addr) (sn sc : Nat) (wa : Option Addr) (wn wc : Nat) (arm : Int) (dead : Bool) (ops : Int) (S : List ByteArray) (P : List (Int × ByteArray)),
    e = .returned (.tuple #[.pointer (some ⟨d, 0, none⟩), .agg #[.slice sa sn sc, .slice wa wn wc, .int .i64 arm, .bool dead, .int .i64 ops], .bool true]) ∧ St L w' n (c + 1) d sa sn wa wn wc arm dead ops S P ∧ (∀ k, K k → L k) ∧ Keep K w w'
theorem put5_keep {K : Nat → Prop} {w w1 : World} (h : Keep K w w1) {r : Nat} (hr : ¬ K r) (u0 u1 u2 u3 u4 : Value) : Keep K w (put5 w1 r u0 u1 u2 u3 u4) := by
  unfold put5
  exact ((((h.setCell hr _).setCell hr _).setCell hr _).setCell hr _).setCell hr _
section
variable {K : Nat → Prop} {w w1 : World} {d sb : Nat} {S : List ByteArray} {pv : Value} {P : List (Int × ByteArray)} {fuse : Int} {down : Bool} {ops : Int}
/-- Another block is written. -/
theorem Disk.put5 (h : Disk K w d sb S pv P fuse down ops) {r : Nat} (hd : d ≠ r) (hs : sb ≠ r) (hp : ∀ k, pv.ownBlock = some k → k ≠ r) (u0 u1 u2 u3 u4 : Value) : Disk K (put5 w r u0 u1 u2 u3 u4) d sb S pv P fuse down ops :=
  h.same (by rw [put5_size]; exact Nat.le_refl _) (put5_block _ _ _ _ _ _ _ _ hd) (put5_block _ _ _ _ _ _ _ _ hs) (fun k hk => put5_block _ _ _ _ _ _ _ _ (hp k hk))
theorem Disk.put5K (h : Disk K w d sb S pv P fuse down ops) {r : Nat} (hr : K r) (u0 u1 u2 u3 u4 : Value) : Disk K (Ytplngodilalbhaa.put5 w r u0 u1 u2 u3 u4) d sb S pv P fuse down ops :=
  h.put5 (fun e => h.nd (e ▸ hr)) (fun e => h.ns (e ▸ hr)) (fun k hk e => (h.np k hk).1 (e ▸ hr)) _ _ _ _ _
end
/-- Behind an act: the result lies at block r. -/
theorem fin_one {K K3 : Nat → Prop} {w w3 w4 : World} {n c d sb r : Nat} {sa wa : Option Addr} {sn sc wn wc : Nat} {arm fuse : Int} {dead : Bool} {ops : Int} {S : List ByteArray} {P : List (Int × ByteArray)} {pv : Value}
    (hK : ∀ k, K k → k < w.heap.size) (B : Below w.heap.size w w3) (hr : w.heap.size ≤ r) (hr3 : r < w3.heap.size) (hD : Disk (fenceK K w w3) w4 d sb S pv P fuse dead ops) (hk : Keep (fenceK K w w3) w3 w4)
    (hR : Ref K3 w3 sa sn wa wn wc S P) (h3 : ∀ k, K3 k → fenceK K w w3 k ∧ k ≠ r) (hn : S.length = n) (hF : Fits P n) (hP : P.length ≤ c + 1) (ha : dead = true ∨ arm = fuse) (hf : fuse ≤ 9223372036854775807) (hA : arm ≤ 9223372036854775807) (ho : 0 ≤ ops) (ho2 : ops ≤ ((c + 1 : Nat) : Int)) (u0 u1 u2 u3 u4 : Value) :
    OneRet K n c w (.returned (.tuple #[.pointer (some ⟨d, 0, none⟩), .agg #[.slice sa sn sc, .slice wa wn wc, .int .i64 arm, .bool dead, .int .i64 ops], .bool true])) (put5 w4 r u0 u1 u2 u3 u4) := by
  have hrK : fenceK K w w3 r := .inr ⟨hr, hr3⟩
  refine ⟨fenceK K w w3, d, sa, sn, sc, wa, wn, wc, arm, dead, ops, S, P, rfl, ⟨sb, pv, fuse, hD.put5K hrK _ _ _ _ _, ?_, hn, hF, hP, ha, hf, hA, ho, ho2⟩, fun k hk => .inl hk, ?_⟩
  · exact (hR.keep (fun k h => (put5_block _ _ _ _ _ _ _ _ (h3 k h).2).trans (hk.block k (h3 k h).1))).wider (fun k h => (h3 k h).1)
  · refine put5_keep ?_ (fun h => by have := hK r h; omega) _ _ _ _ _
    exact ((Keep.refl w).below hK B).trans (hk.mono (fun k h => .inl h))
end Go.Proofs.Ytplngodilalbhaa
