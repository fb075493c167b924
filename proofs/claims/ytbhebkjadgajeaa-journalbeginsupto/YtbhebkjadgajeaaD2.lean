/- An append to a row of one's own, and where its block lies; operate and Write. -/
import Derived.Test.YtbhebkjadgajeaaD1
namespace Go.Proofs.Ytbhebkjadgajeaa
open Go.RowKit
section
variable {P : Program} (w : World)
theorem run_append_fresh (t ty e : TypeId) (i : TypeInfo) (z : Value) (size bytes : Nat) (ht : P.underlying t = some (.slice e)) (hi : P.info? e = some i) (hz : i.zero = some z)
    (hsize : i.size = size) (hby : i.bytes = bytes) (hzs : z.cells.size = size) (hsz : 0 < size)
    (v : Value) (n : Nat) (xs : List Value) (hown : w.ownsRow 0 e size v n xs)
    (a : Addr) (m c : Nat) (hm : 0 < m) (news : List Value) (hl : news.length = m * size) (hnews : ∀ j u, news[j]? = some u → w.cell? (a.add j) = some u) (h1 : ∀ u ∈ news, u.oneCell' = true)
    (h63 : n + m ≤ maxLen) (hbytes : (n + m) * bytes ≤ 140737488355328) :
    ∃ g' cap' w', (Builtin.append_ #[t, t] ty #[v, .slice (some a) m c]).run P w = .ok (.slice (some ⟨g', 0, none⟩) (n + m) cap') w' ∧ w'.ownsRow 0 e size (.slice (some ⟨g', 0, none⟩) (n + m) cap') (n + m) (xs ++ news) ∧ w.grownBy w' v.ownBlock ∧
      (v.ownBlock = some g' ∨ g' = w.heap.size) := by
  obtain ⟨v', w', hr, h2, h3, h4⟩ := run_append_own (P := P) w 0 t ty e i z size bytes ht hi hz hsize hby hzs hsz v n xs hown a m c news hl hnews h1 h63 hbytes (Nat.zero_le _)
  have hsmall : n + m ≤ 9223372036854775807 := by simp only [maxLen] at h63; omega
  subst hsize hby
  rcases hown.2 with ⟨rfl, rfl⟩ | ⟨g, cap, cur, rfl, hbg, hg, hnc, hcm, hcs, htake⟩
  · have hx := run_append_nil (P := P) w t ty e i z ht hi hz a m c news hl hnews (by omega) (by omega) (by have hb := hbytes; simp only [Nat.zero_add] at hb; omega)
    rw [hr] at hx
    injection hx with e1 e2
    subst e1
    simp only [Nat.zero_add] at h2 ⊢
    exact ⟨_, _, w', hr, h2, h3, .inr rfl⟩
  · by_cases hroom : n + m ≤ cap
    · have hfit : n * i.size + news.length ≤ cur.size := by rw [hl, hcs, ← Nat.add_mul]; exact Nat.mul_le_mul_right _ hroom
      have hx := run_append_room (P := P) w t ty e i ht hi g n cap cur hg a m c news hl hnews h1 hroom hfit
      rw [hr] at hx
      injection hx with e1 e2
      subst e1
      exact ⟨_, _, w', hr, h2, h3, .inl rfl⟩
    · have holds : ∀ j u, xs[j]? = some u → w.cell? ((⟨g, 0, none⟩ : Addr).add j) = some u := hown.cells (g := g) rfl
      have hx := run_append_grow (P := P) w t ty e i z ht hi hz ⟨g, 0, none⟩ n cap xs hown.1 holds a m c news hl hnews (by omega) (by omega) (growslice_fits (by omega) hbytes)
      rw [hr] at hx
      injection hx with e1 e2
      subst e1
      exact ⟨_, _, w', hr, h2, h3, .inr rfl⟩
theorem wpList_append_fresh {ops : Array Oper} {rest : List Oper} {o : Oper} {a : Act} {Q : Exit → Act → World → Prop} (hgd : o.guard = none) (s x : Operand) (t : TypeId)
    (ho : o.op = .call { callee := .builtin .append, args := #[s, x], argTypes := #[t, t] })
    (e : TypeId) (i : TypeInfo) (z : Value) (size bytes : Nat) (ht : P.underlying t = some (.slice e)) (hi : P.info? e = some i) (hz : i.zero = some z)
    (hsize : i.size = size) (hby : i.bytes = bytes) (hzs : z.cells.size = size) (hsz : 0 < size)
    (v : Value) (n : Nat) (xs : List Value) (hs : a.eval s = v) (hown : w.ownsRow 0 e size v n xs)
    (ad : Addr) (m c : Nat) (hm : 0 < m) (news : List Value) (hx : a.eval x = .slice (some ad) m c) (hl : news.length = m * size) (hnews : ∀ j u, news[j]? = some u → w.cell? (ad.add j) = some u) (h1 : ∀ u ∈ news, u.oneCell' = true)
    (h63 : n + m ≤ maxLen) (hbytes : (n + m) * bytes ≤ 140737488355328)
    (h : ∀ g' cap' w', w'.ownsRow 0 e size (.slice (some ⟨g', 0, none⟩) (n + m) cap') (n + m) (xs ++ news) → w.grownBy w' v.ownBlock → (v.ownBlock = some g' ∨ g' = w.heap.size) → wpList P ops Q rest (a.put o.dst (.slice (some ⟨g', 0, none⟩) (n + m) cap')) w') : wpList P ops Q (o :: rest) a w :=
  wpList_plain hgd fun K hK => by
    obtain ⟨g', cap', w', hr, h2, h3, h4⟩ := run_append_fresh (P := P) w t o.type e i z size bytes ht hi hz hsize hby hzs hsz v n xs hown ad m c hm news hl hnews h1 h63 hbytes
    unfold Oper.wp execOp
    simp only [ho, resolve, invoke, builtin, Sem.run_bind, Sem.run_pure, Result.andThen_ok, List.map_toArray, List.map_cons, List.map_nil, hs, hx, hr]
    exact hK _ _ (h g' cap' w' h2 h3 h4)
end
section
variable {K : Nat → Prop} {w w1 : World} {d sb : Nat} {S : List ByteArray} {pv : Value} {P : List (Int × ByteArray)} {fuse : Int} {down : Bool} {ops : Int}
theorem op_one (h : Disk K w d sb S pv P 1 down ops) : Calls Try.prog 28 #[.pointer (some ⟨d, 0, none⟩)] w fun e w' => e = .returned (.int .i64 17) ∧ Disk K w' d sb S pv P 1 true ops ∧ Keep K w w' := by
  have c2 := h.c2
  have c3 := h.c3
  have f3 := h.f3
  go_enter Try.func28, Try.ntmps28
  go_wp2
  go_ret
  exact ⟨rfl, h.set3 _, (Keep.refl _).setCell h.nd _⟩
theorem op_down (h : Disk K w d sb S pv P fuse true ops) (hf : (fuse == 1) = false) : Calls Try.prog 28 #[.pointer (some ⟨d, 0, none⟩)] w fun e w' => e = .returned (.int .i64 17) ∧ w = w' := by
  have c2 := h.c2
  have c3 := h.c3
  go_enter Try.func28, Try.ntmps28
  go_wp2
  go_ret
  exact ⟨rfl, rfl⟩
theorem op_off (h : Disk K w d sb S pv P fuse false ops) (hf : fuse ≤ 0) (ho : 0 ≤ ops) (ho2 : ops < 4611686018427387904) : Calls Try.prog 28 #[.pointer (some ⟨d, 0, none⟩)] w fun e w' => e = .returned (.int .i64 0) ∧ Disk K w' d sb S pv P fuse false (ops + 1) ∧ Keep K w w' := by
  have hd : (fuse == 1) = false := by rw [beq_eq_false_iff_ne]; omega
  have c2 := h.c2
  have c3 := h.c3
  have c4 := h.c4
  have f4 := h.f4
  go_enter Try.func28, Try.ntmps28
  go_wp2
  go_ret
  exact ⟨rfl, h.set4 _, (Keep.refl _).setCell h.nd _⟩
theorem op_more (h : Disk K w d sb S pv P fuse false ops) (hf : 1 < fuse) (hf2 : fuse ≤ 9223372036854775807) (ho : 0 ≤ ops) (ho2 : ops < 4611686018427387904) : Calls Try.prog 28 #[.pointer (some ⟨d, 0, none⟩)] w fun e w' => e = .returned (.int .i64 0) ∧ Disk K w' d sb S pv P (fuse - 1) false (ops + 1) ∧ Keep K w w' := by
  have hd : (fuse == 1) = false := by rw [beq_eq_false_iff_ne]; omega
  have c2 := h.c2
  have c3 := h.c3
  have f2 := h.f2
  have c4 := (h.set2 (fuse - 1)).c4
  have f4 := (h.set2 (fuse - 1)).f4
  go_enter Try.func28, Try.ntmps28
  go_wp2
  go_ret
  exact ⟨rfl, (h.set2 _).set4 _, ((Keep.refl _).setCell h.nd _).setCell h.nd _⟩
/-- What operate answers, and what it leaves. -/
def opF (fuse : Int) (down : Bool) (ops : Int) : Int × Int × Bool × Int :=
  if fuse = 1 then (17, 1, true, ops) else if down then (17, fuse, true, ops) else if 0 < fuse then (0, fuse - 1, false, ops + 1) else (0, fuse, false, ops + 1)
theorem operate_any (h : Disk K w d sb S pv P fuse down ops) (hf2 : fuse ≤ 9223372036854775807) (ho : 0 ≤ ops) (ho2 : ops < 4611686018427387904) : Calls Try.prog 28 #[.pointer (some ⟨d, 0, none⟩)] w fun e w' => e = .returned (.int .i64 (opF fuse down ops).1) ∧ Disk K w' d sb S pv P (opF fuse down ops).2.1 (opF fuse down ops).2.2.1 (opF fuse down ops).2.2.2 ∧ Keep K w w' := by
  by_cases h1 : fuse = 1
  · subst h1
    rw [show opF 1 down ops = (17, 1, true, ops) by simp [opF]]
    exact op_one h
  · cases down with
    | true =>
      rw [show opF fuse true ops = (17, fuse, true, ops) by simp [opF, h1]]
      exact (op_down h (by rw [beq_eq_false_iff_ne]; exact h1)).mono fun e w' ⟨he, hw⟩ => ⟨he, hw ▸ h, hw ▸ Keep.refl _⟩
    | false =>
      by_cases h2 : 0 < fuse
      · rw [show opF fuse false ops = (0, fuse - 1, false, ops + 1) by simp [opF, h1, h2]]
        exact op_more h (by omega) hf2 ho ho2
      · rw [show opF fuse false ops = (0, fuse, false, ops + 1) by simp [opF, h1, h2]]
        have hle : fuse ≤ 0 := by omega
        exact op_off h hle ho ho2
end
end Go.Proofs.Ytbhebkjadgajeaa
