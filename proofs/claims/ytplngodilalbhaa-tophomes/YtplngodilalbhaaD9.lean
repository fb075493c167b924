/- Contracts: Write and Flush in one piece; Safe, Copy; a disk beside other memory. -/
import Derived.Test.YtplngodilalbhaaD8
import Derived.Shelf.SlicesE.Clone
import Derived.Test.YtplngodilalbhaaShelf2
namespace Go.Proofs.Ytplngodilalbhaa
open Go.RowKit Go.Shelf
/-- What Write answers, and what it leaves. -/
def wrF (n : Nat) (P : List (Int × ByteArray)) (fuse : Int) (down : Bool) (ops : Int) (i : Int) (s : ByteArray) : Int × List (Int × ByteArray) × Int × Bool × Int :=
  if i < 0 ∨ (n : Int) ≤ i ∨ s.size ≠ 512 then (18, P, fuse, down, ops)
  else ((opF fuse down ops).1, if (opF fuse down ops).1 = 0 then P ++ [(i, s)] else P, (opF fuse down ops).2.1, (opF fuse down ops).2.2.1, (opF fuse down ops).2.2.2)
/-- What Flush answers, and what it leaves. -/
def flF (S : List ByteArray) (P : List (Int × ByteArray)) (fuse : Int) (down : Bool) (ops : Int) : Int × List ByteArray × List (Int × ByteArray) × Int × Bool × Int :=
  if (opF fuse down ops).1 = 0 then (0, appl S P (fun _ => true) P.length, [], (opF fuse down ops).2.1, (opF fuse down ops).2.2.1, (opF fuse down ops).2.2.2)
  else (17, S, P, (opF fuse down ops).2.1, (opF fuse down ops).2.2.1, (opF fuse down ops).2.2.2)
theorem opF_cases (fuse : Int) (down : Bool) (ops : Int) : (∃ f d o, opF fuse down ops = (0, f, d, o)) ∨ ∃ f d o, opF fuse down ops = (17, f, d, o) := by
  unfold opF
  split
  · exact .inr ⟨_, _, _, rfl⟩
  · split
    · exact .inr ⟨_, _, _, rfl⟩
    · split <;> exact .inl ⟨_, _, _, rfl⟩
section
variable {K : Nat → Prop} {w w1 : World} {d sb : Nat} {S : List ByteArray} {pv : Value} {P : List (Int × ByteArray)} {fuse : Int} {down : Bool} {ops : Int}
theorem write_any (h : Disk K w d sb S pv P fuse down ops) (i : Int) (s : ByteArray) (hP : P.length ≤ 1000000) (hf2 : fuse ≤ 9223372036854775807) (ho : 0 ≤ ops) (ho2 : ops < 4611686018427387904) (y : Int) (P' : List (Int × ByteArray)) (f' : Int) (d' : Bool) (o' : Int) (hq : wrF S.length P fuse down ops i s = (y, P', f', d', o')) :
    Calls Try.prog 34 #[.pointer (some ⟨d, 0, none⟩), .int .i64 i, .string s] w fun e w' => e = .returned (.int .i64 y) ∧ (∃ pv', Disk K w' d sb S pv' P' f' d' o') ∧ Keep K w w' := by
  unfold wrF at hq
  by_cases h1 : i < 0 ∨ (S.length : Int) ≤ i
  · rw [if_pos (by rcases h1 with h1 | h1 <;> simp [h1])] at hq
    simp only [Prod.mk.injEq] at hq
    obtain ⟨rfl, rfl, rfl, rfl, rfl⟩ := hq
    exact (write_out h i s h1).mono fun e w' ⟨he, hw⟩ => ⟨he, hw ▸ ⟨pv, h⟩, hw ▸ Keep.refl _⟩
  · obtain ⟨a, rfl⟩ : ∃ a : Nat, i = a := ⟨i.toNat, by omega⟩
    have ha : a < S.length := by omega
    by_cases h2 : s.size = 512
    · rw [if_neg (by omega)] at hq
      rcases opF_cases fuse down ops with ⟨f, dn, o, hop⟩ | ⟨f, dn, o, hop⟩
      · rw [hop, if_pos rfl] at hq
        simp only [Prod.mk.injEq] at hq
        obtain ⟨rfl, rfl, rfl, rfl, rfl⟩ := hq
        exact write_ok h a s ha h2 hP hf2 ho ho2 _ _ _ hop
      · rw [hop, if_neg (show ¬ ((17 : Int) = 0) by decide)] at hq
        simp only [Prod.mk.injEq] at hq
        obtain ⟨rfl, rfl, rfl, rfl, rfl⟩ := hq
        exact (write_down h a s ha h2 hf2 ho ho2 _ _ _ hop).mono fun e w' ⟨he, hD, hK⟩ => ⟨he, ⟨pv, hD⟩, hK⟩
    · rw [if_pos (by simp [h2])] at hq
      simp only [Prod.mk.injEq] at hq
      obtain ⟨rfl, rfl, rfl, rfl, rfl⟩ := hq
      exact (write_short h a s ha h2).mono fun e w' ⟨he, hw⟩ => ⟨he, hw ▸ ⟨pv, h⟩, hw ▸ Keep.refl _⟩
theorem flush_any (h : Disk K w d sb S pv P fuse down ops) (hF : Fits P S.length) (hP : P.length ≤ 1000000) (hf2 : fuse ≤ 9223372036854775807) (ho : 0 ≤ ops) (ho2 : ops < 4611686018427387904) (y : Int) (S' : List ByteArray) (P' : List (Int × ByteArray)) (f' : Int) (d' : Bool) (o' : Int) (hq : flF S P fuse down ops = (y, S', P', f', d', o')) :
    Calls Try.prog 36 #[.pointer (some ⟨d, 0, none⟩)] w fun e w' => e = .returned (.int .i64 y) ∧ (∃ pv', Disk K w' d sb S' pv' P' f' d' o') ∧ Keep K w w' := by
  unfold flF at hq
  rcases opF_cases fuse down ops with ⟨f, dn, o, hop⟩ | ⟨f, dn, o, hop⟩
  · rw [hop, if_pos rfl] at hq
    simp only [Prod.mk.injEq] at hq
    obtain ⟨rfl, rfl, rfl, rfl, rfl, rfl⟩ := hq
    exact (flush_ok h hF hP hf2 ho ho2 _ _ _ hop).mono fun e w' ⟨he, hD, hK⟩ => ⟨he, ⟨_, hD⟩, hK⟩
  · rw [hop, if_neg (show ¬ ((17 : Int) = 0) by decide)] at hq
    simp only [Prod.mk.injEq] at hq
    obtain ⟨rfl, rfl, rfl, rfl, rfl, rfl⟩ := hq
    exact (flush_down h hf2 ho ho2 _ _ _ hop).mono fun e w' ⟨he, hD, hK⟩ => ⟨he, ⟨_, hD⟩, hK⟩
/-- What has come since is kept too. -/
theorem Disk.fence (h : Disk K w d sb S pv P fuse down ops) (B : Below w.heap.size w w1) : Disk (fun k => K k ∨ w.heap.size ≤ k ∧ k < w1.heap.size) w1 d sb S pv P fuse down ops := by
  have g := h.below B
  refine ⟨g.c0, g.c1, g.c2, g.c3, g.c4, g.f1, g.f2, g.f3, g.f4, g.row, g.pend, ?_, ?_, ?_, g.ne, g.slt, ?_⟩
  · rintro (hk | hk)
    · exact h.nd hk
    · have := h.dlt; omega
  · rintro (hk | hk)
    · exact h.ns hk
    · have := h.slt; omega
  · intro k hk
    refine ⟨?_, (h.np k hk).2⟩
    rintro (hk2 | hk2)
    · exact (h.np k hk).1 hk2
    · have := (h.pend.lt k hk).2; omega
  · rintro k (hk | hk)
    · have := h.lt k hk; have := B.size; omega
    · exact hk.2
/-- The row of strings at block g. -/
def StrRow (w : World) (g : Nat) (S : List ByteArray) : Prop := ∀ j (hj : j < S.length), w.cell? ⟨g, j, none⟩ = some (.string S[j])
theorem StrRow.block {g : Nat} (h : StrRow w g S) (hb : w1.heap[g]? = w.heap[g]?) : StrRow w1 g S := fun j hj => (World.cell?_of_block (a := ⟨g, j, none⟩) hb).trans (h j hj)
theorem add_nil (g x : Nat) : (⟨g, 0, none⟩ : Addr).add x = ⟨g, x, none⟩ := by unfold Addr.add; split <;> simp_all
theorem StrRow.of_own {b g cap n : Nat} (h : w.ownsRow b 9 1 (.slice (some ⟨g, 0, none⟩) n cap) n (S.map Value.string)) : StrRow w g S := by
  intro j hj
  have hc := h.cells (g := g) rfl j (.string S[j]) (by rw [List.getElem?_map, List.getElem?_eq_getElem hj]; rfl)
  rwa [add_nil] at hc
/-- A new row of strings. -/
def StrRet (S : List ByteArray) (w : World) (e : Ending) (w' : World) : Prop :=
  ∃ g cap, e = .returned (.slice (some ⟨g, 0, none⟩) S.length cap) ∧ w.heap.size ≤ g ∧ g < w'.heap.size ∧ w'.ownsRow w.heap.size 9 1 (.slice (some ⟨g, 0, none⟩) S.length cap) S.length (S.map Value.string) ∧ Below w.heap.size w w'
set_option maxRecDepth 100000 in
theorem clone_strs (b n c : Nat) (hn : n = S.length) (w : World) (hS : S.length ≤ 1000000) (hc : StrRow w b S) : Calls Try.prog 62 #[.slice (some ⟨b, 0, none⟩) n c] w (StrRet S w) := by
  subst hn
  have h := AnyE.slices_Clone Try.clone62 _ (.string ⟨#[]⟩) 1 16 rfl rfl rfl rfl rfl (by omega) (fun w => rfl) b 0 S.length c (S.map Value.string) w (by simp) (by unfold maxLen; omega) (by omega)
    (fun j u hj => by
      rw [List.getElem?_map] at hj
      obtain ⟨z, hz, rfl⟩ := Option.map_eq_some_iff.1 hj
      obtain ⟨hj', rfl⟩ := List.getElem?_eq_some_iff.1 hz
      rw [Nat.zero_add]
      exact hc j hj')
    (fun u hu => by obtain ⟨z, _, rfl⟩ := List.mem_map.1 hu; rfl)
  refine h.mono ?_
  rintro e w' ⟨v, rfl, ho, hn, hB⟩
  rcases ho.2 with ⟨hv, _⟩ | ⟨g, cp, cur, rfl, hgb, hgc, _⟩
  · exact absurd hv hn
  · exact ⟨g, cp, rfl, hgb, (Array.getElem?_eq_some_iff.1 hgc).1, ho, hB⟩
theorem safe_any (h : Disk K w d sb S pv P fuse down ops) (hS : S.length ≤ 1000000) : Calls Try.prog 32 #[.pointer (some ⟨d, 0, none⟩)] w (StrRet S w) := by
  obtain ⟨sc, c0⟩ := h.c0
  have n1 := Lib.hid (clone_strs sb S.length sc rfl w hS (fun j hj => (h.row j hj).1))
  go_enter Try.func32, Try.ntmps32
  go_wp2_with fail
  refine n1.out.mono ?_
  rintro e w1 ⟨g, cap, rfl, h1, h2, h3, h4⟩
  go_wp2_with fail
  go_ret
  exact ⟨g, cap, rfl, h1, h2, h3, h4⟩
end
end Go.Proofs.Ytplngodilalbhaa
