/- GaugeSorts, walked. -/
import Derived.Test.YtmhfbgcfagfmbaaSI
import Derived.Test.YtmhfbgcfagfmbaaSB
import Derived.Test.YtmhfbgcfagfmbaaSG
import Derived.Test.YtmhfbgcfagfmbaaFG
namespace Go.Proofs.Ytmhfbgcfagfmbaa
open Go.RowKit
theorem some_nil (x : Addr) (c : Nat) (w : World) : (binOp .eql 51 (.slice (some x) 0 c) (.slice none 0 0)).run Try.prog w = .ok (.bool false) w := by
  first | rfl | kernel_rfl | simp [go_sem] | simp [binOp, Op.equal, Op.equalIn, run_underlying Try.underlying51]
theorem clone_zero (x : Addr) (c : Nat) (w : World) : Calls Try.prog 70 #[.slice (some x) 0 c] w fun e w' => ∃ a c', e = .returned (.slice a 0 c') ∧ Below w.heap.size w w' := by
  obtain ⟨i0, hi0, hz0, hz1, hz2⟩ := info_parts info45s
  have hRF := RowOf.fresh w 45 1
  have ke := some_nil x c w
  go_enter Try.func70, Try.ntmps70
  go_wp2_with (at_builtin; refine wpList_append_own _ rfl _ _ 51 rfl w.heap.size 45 i0 (.float .f64 0) 1 8 Try.underlying51 hi0 hz0 hz1 hz2 rfl (by decide) _ 0 [] rfl hRF.own x 0 c [] rfl ?d1 ?d2 ?d3 ?d4 ?d5 ?d6 ?_)
  case d1 => rfl
  case d2 => intro j u hj; simp at hj
  case d3 => intro u hu; simp at hu
  case d4 => unfold maxLen; omega
  case d5 => omega
  case d6 => exact hRF.below.size
  intro v1 w4 hown1 hgrow1 _
  have hB : Below w.heap.size w w4 := hRF.below.grown hgrow1 hRF.below.size (fun j hj => (hRF.own.lt j hj).1)
  have hv : ∃ a c', v1 = .slice a 0 c' := by
    rcases hown1.2 with ⟨h, _⟩ | ⟨g, cap, cur, h, _⟩
    · exact ⟨none, 0, h⟩
    · exact ⟨_, cap, h⟩
  obtain ⟨a', c', rfl⟩ := hv
  clear hown1 hgrow1
  go_wp2_with fail
  go_ret
  exact ⟨a', c', rfl, hB⟩
theorem gsort_zero (x : Addr) (c : Nat) (w : World) : Calls Try.prog 49 #[.slice (some x) 0 c] w (SortRet [] 0 w) := by
  go_enter Try.func49, Try.ntmps49
  go_wp2_with fail
  refine (clone_zero x c _).mono ?_
  rintro e w1 ⟨a1, c1, rfl, hB⟩
  go_wp2_with fail
  refine (stable_none a1 c1 _).mono ?_
  rintro e w' ⟨rfl, rfl⟩
  go_wp2_with fail
  go_ret
  exact ⟨a1, c1, [], rfl, ⟨rfl, fun z hz => by simp at hz, .inl rfl⟩, List.Perm.refl _, fun i j _ h => by omega, hB⟩
theorem gsort_all (a : Option Addr) (len cap : Nat) (zs : List Nat) (w : World) (hm : len ≤ 200) (hz : Flts w a len zs) : Calls Try.prog 49 #[.slice a len cap] w (SortRet zs len w) := by
  cases a with
  | none => exact gsort_any none len cap zs w hm hz (fun x h => by cases h)
  | some x =>
    by_cases h0 : len = 0
    · subst h0
      obtain rfl : zs = [] := List.eq_nil_of_length_eq_zero hz.1
      exact gsort_zero x cap w
    · refine gsort_any (some x) len cap zs w hm hz (fun y hy => ?_)
      rcases hz.2.2 with h | ⟨b, off, h, _⟩
      · exact absurd h h0
      · cases hy; cases h; exact ⟨b, off, rfl⟩
/-- Seven counts in block B. -/
structure Seven (B : Nat) (c : Nat → Nat) (wx : World) : Prop where
  lt : B < wx.heap.size
  cell : ∀ i, i < 7 → wx.cell? ⟨B, i, none⟩ = some (.int .i64 (c i : Int))
  frozen : ∀ i, i < 7 → wx.frozen? ⟨B, i, none⟩ = false
theorem Seven.below {B : Nat} {c : Nat → Nat} {wx w1 : World} (h : Seven B c wx) (b : Below wx.heap.size wx w1) : Seven B c w1 :=
  ⟨Nat.lt_of_lt_of_le h.lt b.size, fun i hi => (b.cell (p := ⟨B, i, none⟩) h.lt).trans (h.cell i hi), fun i hi => (b.frozen (p := ⟨B, i, none⟩) h.lt).trans (h.frozen i hi)⟩
theorem Seven.add {B : Nat} {c : Nat → Nat} {wx : World} (h : Seven B c wx) (i : Nat) (hi : i < 7) : Seven B (fun j => if j = i then c i + 1 else c j) (wx.setCell ⟨B, i, none⟩ (.int .i64 ((c i : Int) + 1))) := by
  refine ⟨by simpa using h.lt, fun j hj => ?_, fun j hj => by rw [World.frozen?_setCell]; exact h.frozen j hj⟩
  by_cases e : j = i
  · subst e
    rw [if_pos rfl, World.cell?_setCell_same _ _ _ (h.cell j hj)]
    congr 2
  · rw [if_neg e, World.cell?_setCell_other _ _ _ _ (fun x => e (by injection x with _ h2; exact h2.symm))]
    exact h.cell j hj
theorem Seven.new (w : World) : Seven w.heap.size (fun _ => 0) (w.alloc (.cells #[.int .i64 0, .int .i64 0, .int .i64 0, .int .i64 0, .int .i64 0, .int .i64 0, .int .i64 0] 58)) := by
  refine ⟨by simp, fun i hi => ?_, fun i hi => ?_⟩
  · match i, hi with
    | 0, _ => simp [go_sem]
    | 1, _ => simp [go_sem]
    | 2, _ => simp [go_sem]
    | 3, _ => simp [go_sem]
    | 4, _ => simp [go_sem]
    | 5, _ => simp [go_sem]
    | 6, _ => simp [go_sem]
  · simp [go_sem]
theorem kind_nat {x : Nat} (hx : Fit x) : ∃ i : Nat, i < 7 ∧ kindF x = (i : Int) := by
  rcases kind_cases hx with ⟨_, h, _⟩ | ⟨_, _, h, _⟩ | ⟨_, h, _⟩ | ⟨_, h, _⟩ | ⟨_, h, _⟩ | ⟨_, _, h, _⟩ | ⟨_, h, _⟩ <;> rw [h]
  · exact ⟨3, by omega, rfl⟩
  · exact ⟨4, by omega, rfl⟩
  · exact ⟨5, by omega, rfl⟩
  · exact ⟨6, by omega, rfl⟩
  · exact ⟨2, by omega, rfl⟩
  · exact ⟨1, by omega, rfl⟩
  · exact ⟨0, by omega, rfl⟩
theorem eq_int3 (d : Nat) (a b : Int) (w : World) : (Op.equalIn (d + 1) 3 (.int .i64 a) (.int .i64 b)).run Try.prog w = .ok (a == b) w := run_equalIn_int w d 3 .i64 .i64 a b Try.underlying3
theorem eq58d (d : Nat) (c0 c1 c2 c3 c4 c5 c6 : Int) (w : World) : (Op.equalIn (d + 1 + 1) 58 (.agg #[.int .i64 c0, .int .i64 c1, .int .i64 c2, .int .i64 c3, .int .i64 c4, .int .i64 c5, .int .i64 c6]) (.agg #[.int .i64 c0, .int .i64 c1, .int .i64 c2, .int .i64 c3, .int .i64 c4, .int .i64 c5, .int .i64 c6])).run Try.prog w = .ok true w := by
  rw [Op.equalIn]
  simp only [Sem.run_bind, run_underlying Try.underlying58, Result.andThen_ok]
  have hs : (sizeOf 3).run Try.prog w = .ok 1 w := by simp [go_sem]
  rw [hs]
  simp only [Result.andThen_ok]
  simp [Std.Legacy.Range.forIn_eq_forIn_range', Std.Legacy.Range.size, List.range', go_sem, eq_int3]
theorem eq58 (c0 c1 c2 c3 c4 c5 c6 : Int) (w : World) : (Op.equalIn 10000 58 (.agg #[.int .i64 c0, .int .i64 c1, .int .i64 c2, .int .i64 c3, .int .i64 c4, .int .i64 c5, .int .i64 c6]) (.agg #[.int .i64 c0, .int .i64 c1, .int .i64 c2, .int .i64 c3, .int .i64 c4, .int .i64 c5, .int .i64 c6])).run Try.prog w = .ok true w := by
  have := eq58d 9998 c0 c1 c2 c3 c4 c5 c6 w
  simpa using this
theorem alik_tk {b c : Nat} (hb : Fit b) (hc : Fit c) (h : Alik b c) : tk b = tk c := by
  rcases h with rfl | ⟨h1, h2⟩
  · rfl
  · rw [tk_nan hb h1, tk_nan hc h2]
/-- The ends of what is sorted. -/
theorem ends_first {zs ys : List Nat} (hp : ys.Perm zs) (ha : Asc ys) (h0 : 0 < ys.length) : ys.getD 0 0 ∈ zs ∧ ∀ z ∈ zs, tk (ys.getD 0 0) ≤ tk z := by
  have e : ys.getD 0 0 = ys[0] := by simp [h0]
  refine ⟨hp.mem_iff.1 (by rw [e]; exact List.getElem_mem _), fun z hz => ?_⟩
  obtain ⟨j, hj, rfl⟩ := List.mem_iff_getElem.1 (hp.mem_iff.2 hz)
  have ej : ys.getD j 0 = ys[j] := by simp [hj]
  by_cases h : j = 0
  · subst h; rw [e]; exact Int.le_refl _
  · rw [← ej]; exact ha.get 0 j (by omega) hj
theorem ends_last {zs ys : List Nat} {n : Nat} (hp : ys.Perm zs) (ha : Asc ys) (h0 : ys.length = n + 1) : ys.getD n 0 ∈ zs ∧ ∀ z ∈ zs, tk z ≤ tk (ys.getD n 0) := by
  have e : ys.getD n 0 = ys[n] := by simp [h0]
  refine ⟨hp.mem_iff.1 (by rw [e]; exact List.getElem_mem _), fun z hz => ?_⟩
  obtain ⟨j, hj, rfl⟩ := List.mem_iff_getElem.1 (hp.mem_iff.2 hz)
  have ej : ys.getD j 0 = ys[j] := by simp [hj]
  by_cases h : j = n
  · subst h; rw [e]; exact Int.le_refl _
  · rw [← ej]; exact ha.get j n (by omega) (by omega)
end Go.Proofs.Ytmhfbgcfagfmbaa
