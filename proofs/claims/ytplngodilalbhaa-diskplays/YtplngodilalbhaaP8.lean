/- DiskPlays: one act of whatever kind. -/
import Derived.Test.YtplngodilalbhaaP7
namespace Go.Proofs.Ytplngodilalbhaa
open Go.RowKit Go.Shelf
section
variable {K : Nat → Prop} {n c d : Nat} {sa wa : Option Addr} {sn wn wc : Nat} {arm : Int} {dead : Bool} {ops : Int} {S : List ByteArray} {P : List (Int × ByteArray)}
theorem one_any (sc : Nat) (r : ActR) (w : World) (h : St K w n c d sa sn wa wn wc arm dead ops S P) (hK : ∀ k, K k → k < w.heap.size) (hn1 : 1 ≤ n) (hn2 : n ≤ 60) (hc : c ≤ 100) (hN : r.n ≤ 9223372036854775807) (hB : Bools K w r.ka r.kn r.ks) :
    Calls Try.prog 25 #[.pointer (some ⟨d, 0, none⟩), .agg #[.slice sa sn sc, .slice wa wn wc, .int .i64 arm, .bool dead, .int .i64 ops], .agg #[.int .i64 r.kind, .int .i64 r.n, .int .u8 (r.byte.toNat : Int), .bool r.short, .slice r.ka r.kn r.kc]] w (OneRet K n c w) := by
  obtain ⟨kd, N, byte, short, ka, kn, kc, ks⟩ := r
  simp only at hN hB ⊢
  by_cases h0 : kd = 0
  · subst h0
    cases short with
    | false => exact one_write sc N byte ka kn kc w h hK hn1 hn2 hc
    | true => exact one_short sc N byte ka kn kc w h hK hn1 hn2 hc
  by_cases h1 : kd = 1
  · subst h1; exact one_flush sc N byte short ka kn kc w h hK hn1 hn2 hc
  by_cases h2 : kd = 2
  · subst h2; exact one_arm sc N byte short ka kn kc w h hK hn1 hn2 hc hN
  by_cases h3 : kd = 3
  · subst h3; exact one_up sc N byte short ka kn kc w h hK hn1 hn2 hc ks hB
  by_cases h4 : kd = 4
  · subst h4; exact one_copy sc N byte short ka kn kc w h hK hn1 hn2 hc
  exact one_none sc kd N byte short ka kn kc w h hK hn1 hn2 hc (beq_eq_false_iff_ne.2 h0) (beq_eq_false_iff_ne.2 h1) (beq_eq_false_iff_ne.2 h2) (beq_eq_false_iff_ne.2 h3) (beq_eq_false_iff_ne.2 h4)
/-- What Read answers, at whatever sector. -/
def rdF (S : List ByteArray) (P : List (Int × ByteArray)) (dead : Bool) (at' : Int) : ByteArray × Int :=
  if dead = true then (ByteArray.empty, 17) else if at' < 0 ∨ (S.length : Int) ≤ at' then (ByteArray.empty, 18) else (readT S P at'.toNat, 0)
theorem read_any {w : World} {sb : Nat} {pv : Value} {fuse : Int} (h : Disk K w d sb S pv P fuse dead ops) (hP : P.length ≤ 1000000) (at' : Int) (t : ByteArray) (y : Int) (hq : rdF S P dead at' = (t, y)) :
    Calls Try.prog 27 #[.pointer (some ⟨d, 0, none⟩), .int .i64 at'] w fun e w' => e = .returned (.tuple #[.string t, .int .i64 y]) ∧ Below w.heap.size w w' := by
  unfold rdF at hq
  cases dead with
  | true => rw [if_pos rfl] at hq; simp only [Prod.mk.injEq] at hq; obtain ⟨rfl, rfl⟩ := hq; exact read_down h at'
  | false =>
    rw [if_neg (by decide)] at hq
    by_cases hb : at' < 0 ∨ (S.length : Int) ≤ at'
    · rw [if_pos hb] at hq; simp only [Prod.mk.injEq] at hq; obtain ⟨rfl, rfl⟩ := hq; exact read_out h at' hb
    · rw [if_neg hb] at hq; simp only [Prod.mk.injEq] at hq; obtain ⟨rfl, rfl⟩ := hq
      obtain ⟨i, rfl⟩ : ∃ i : Nat, at' = i := ⟨at'.toNat, by omega⟩
      exact read_ok h i (by omega) hP
theorem rread_any {w : World} (sc : Nat) (h : Ref K w sa sn wa wn wc S P) (hP : P.length ≤ 1000000) (at' : Int) (t : ByteArray) (y : Int) (hq : rdF S P dead at' = (t, y)) :
    Calls Try.prog 26 #[.agg #[.slice sa sn sc, .slice wa wn wc, .int .i64 arm, .bool dead, .int .i64 ops], .int .i64 at'] w fun e w' => e = .returned (.tuple #[.string t, .int .i64 y]) ∧ Below w.heap.size w w' := by
  unfold rdF at hq
  cases dead with
  | true => rw [if_pos rfl] at hq; simp only [Prod.mk.injEq] at hq; obtain ⟨rfl, rfl⟩ := hq; exact rread_down sc arm ops at' w
  | false =>
    rw [if_neg (by decide)] at hq
    by_cases hb : at' < 0 ∨ (S.length : Int) ≤ at'
    · rw [if_pos hb] at hq; simp only [Prod.mk.injEq] at hq; obtain ⟨rfl, rfl⟩ := hq; exact rread_out sc arm ops at' w (by rw [h.sn]; exact hb)
    · rw [if_neg hb] at hq; simp only [Prod.mk.injEq] at hq; obtain ⟨rfl, rfl⟩ := hq
      obtain ⟨i, rfl⟩ : ∃ i : Nat, at' = i := ⟨at'.toNat, by omega⟩
      exact rread_ok sc arm ops i w h (by omega) hP _ rfl
end
end Go.Proofs.Ytplngodilalbhaa
