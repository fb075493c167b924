/- TopHomes: behind a write. TopHomes: behind a flush every page is the last one. -/
import Derived.Test.YtplngodilalbhaaH5
namespace Go.Proofs.Ytplngodilalbhaa
open Go.RowKit Go.Shelf
set_option linter.unusedVariables false
theorem heap_at (w : World) (b o : Nat) (v : Value) (k : Nat) (h : k ≠ b) : (w.setCell ⟨b, o, none⟩ v).heap[k]? = w.heap[k]? := Below.heap_setCell w ⟨b, o, none⟩ v k h
/-- Behind a write. -/
def TQ (w : World) (m d sb mb j box : Nat) (fl : Bool) (wx : World) : Prop :=
  ∃ (K : Nat → Prop) (G : Nat → Nat) (M : List (List UInt8)) (S : List ByteArray) (pv : Value) (B : List (Nat × UInt8)) (fuse : Int) (dn : Bool) (ops : Int),
    Disk K wx d sb S pv (wrs B) fuse dn ops ∧ May K wx mb G M ∧ M.length = m ∧ Inv S B M ∧ (∀ x, x < w.heap.size → K x) ∧ Keep (fun x => x < w.heap.size) w wx ∧ (∀ i, i < m → w.heap.size ≤ G i) ∧ B.length ≤ j + 1 ∧ (∀ l ∈ M, l.length ≤ j + 2) ∧ fuse ≤ 9223372036854775807 ∧ 0 ≤ ops ∧ ops ≤ 2 * (j : Int) + 1 ∧ wx.cell? ⟨box, 2, none⟩ = some (.bool fl)
theorem tq_ok {K1 : Nat → Prop} {w w8 w9 w10 : World} {m d sb mb j box p g' : Nat} {fl : Bool} {G : Nat → Nat} {M : List (List UInt8)} {S : List ByteArray} {pv : Value} {B : List (Nat × UInt8)} {fuse : Int} {dn : Bool} {ops : Int} {L : List UInt8} {c : UInt8} {v' : Value} {T : ByteArray}
    (hD8 : Disk K1 w8 d sb S pv (wrs (B ++ [(p, c)])) fuse dn ops) (hM8 : May K1 w8 mb G M) (hMl : M.length = m) (hp : p < m) (hI2 : Inv S (B ++ [(p, c)]) (M.set p (L ++ [c]))) (hK0 : ∀ x, x < w.heap.size → K1 x) (hKw : Keep (fun x => x < w.heap.size) w w8) (hGw : ∀ i, i < m → w.heap.size ≤ G i) (hwm : w.heap.size ≤ mb)
    (hBl : B.length ≤ j) (hMb : ∀ l ∈ M, l.length ≤ j + 1) (hL : L ∈ M) (hf : fuse ≤ 9223372036854775807) (ho1 : 0 ≤ ops) (ho2 : ops ≤ 2 * (j : Int) + 1) (hfl : w8.cell? ⟨box, 2, none⟩ = some (.bool fl)) (hbx : box ≠ mb) (hbG : box ≠ G p) (hb9 : Below w8.drew.heap.size w8.drew w9)
    (hr' : MRow w10 v' g' (L ++ [c])) (hg' : g' = G p ∨ (w9.alloc (.cells #[.string T] 9)).heap.size ≤ g') (hgl' : g' < w10.heap.size) (hgrow : (w9.alloc (.cells #[.string T] 9)).grownBy w10 (some (G p))) :
    TQ w m d sb mb j box fl (w10.setCell ⟨mb, p, none⟩ v') := by
  have hs89 : w8.heap.size ≤ w9.heap.size := hb9.size
  have hs910 : w9.heap.size < w10.heap.size := by have := hgrow.size; simp at this; omega
  have hblk : ∀ k, k < w8.heap.size → k ≠ G p → w10.heap[k]? = w8.heap[k]? := fun k hk hne => (hgrow.block k (by simp; omega) (fun e => hne (Option.some.inj e))).trans ((Below.heap_alloc w9 _ k (by omega)).trans (hb9.block k hk))
  have hbox : box < w8.heap.size := World.block_lt_of_cell? w8 _ hfl
  have hGp := hM8.ne p (by omega)
  have hD := hD8.grow (w1 := w10.setCell ⟨mb, p, none⟩ v') (by simp; omega) (fun k hk hnK => (heap_at w10 mb p v' k (fun e => hnK (e ▸ hM8.own))).trans (hblk k hk (fun e => hnK (e ▸ hGp.2))))
  have hM := hM8.put (L := fun k => K1 k ∨ w8.heap.size ≤ k ∧ k < (w10.setCell ⟨mb, p, none⟩ v').heap.size) (w1 := w10) (p := p) (by omega) (fun k hk => .inl hk) (fun k hk hne => hblk k (hD8.lt k hk) hne) hr' (hg'.imp id (fun h hk => by have := hD8.lt _ hk; simp at h; omega)) (hg'.elim (fun h => .inl (h ▸ hGp.2)) (fun h => .inr ⟨by simp at h; omega, by simpa using hgl'⟩))
  refine ⟨_, _, _, S, pv, _, fuse, dn, ops, hD, hM, by rw [List.length_set]; exact hMl, hI2, fun x hx => .inl (hK0 x hx), ?_, fun i hi => ?_, by simp; omega, fun l hl => ?_, hf, ho1, ho2, ?_⟩
  · refine ⟨hgrow.os.trans (hb9.os.trans hKw.os), hgrow.tape.trans (hb9.tape.trans hKw.tape), hgrow.output.trans (hb9.output.trans hKw.output), by have := hKw.size; simp; omega, fun k hk => ?_⟩
    have hk8 : k < w8.heap.size := Nat.lt_of_lt_of_le hk hKw.size
    have := hGw p hp
    exact (heap_at w10 mb p v' k (by omega)).trans ((hblk k hk8 (by omega)).trans (hKw.block k hk))
  · by_cases hip : i = p
    · simp only [if_pos hip]
      rcases hg' with h | h
      · rw [h]; exact hGw p hp
      · have := hKw.size; simp at h; omega
    · simp only [if_neg hip]; exact hGw i hi
  · rcases List.mem_or_eq_of_mem_set hl with h | rfl
    · have := hMb l h; omega
    · have := hMb L hL; simp; omega
  · exact (World.cell?_of_block (a := ⟨box, 2, none⟩) ((heap_at w10 mb p v' box hbx).trans (hblk box hbox hbG))).trans hfl
end Go.Proofs.Ytplngodilalbhaa
namespace Go.Proofs.Ytplngodilalbhaa
open Go.RowKit Go.Shelf
/-- The first t rows cut to their last. -/
def cutM (M : List (List UInt8)) (t : Nat) : List (List UInt8) := (M.take t).map (fun l => [lastB l]) ++ M.drop t
theorem cutM_length (M : List (List UInt8)) (t : Nat) (h : t ≤ M.length) : (cutM M t).length = M.length := by simp [cutM]; omega
theorem cutM_zero (M : List (List UInt8)) : cutM M 0 = M := by simp [cutM]
theorem cutM_all (M : List (List UInt8)) : cutM M M.length = M.map fun l => [lastB l] := by simp [cutM]
theorem cutM_get (M : List (List UInt8)) (t : Nat) (h : t < M.length) : ∃ h', (cutM M t)[t]'h' = M[t] := by
  refine ⟨by rw [cutM_length M t (by omega)]; exact h, ?_⟩
  unfold cutM
  rw [List.getElem_append_right (by simp; omega)]
  simp [List.length_map, List.length_take, Nat.min_eq_left (Nat.le_of_lt h)]
theorem cutM_succ (M : List (List UInt8)) (t : Nat) (h : t < M.length) : cutM M (t + 1) = (cutM M t).set t [lastB M[t]] := by
  unfold cutM
  have e : ((M.take t).map (fun l => [lastB l])).length = t := by simp; omega
  rw [List.set_append_right _ _ (by omega), e, Nat.sub_self, List.take_succ_eq_append_getElem h, List.map_append, List.drop_eq_getElem_cons h, List.set_cons_zero, List.append_assoc]
  rfl
theorem lastB_get (l : List UInt8) (h : l.length - 1 < l.length) : lastB l = l[l.length - 1] := by
  unfold lastB
  rw [List.getLastD_eq_getLast?, List.getLast?_eq_getElem?, List.getElem?_eq_getElem h]
  rfl
theorem Disk.setM {K : Nat → Prop} {w : World} {d sb : Nat} {S : List ByteArray} {pv : Value} {P : List (Int × ByteArray)} {fuse : Int} {down : Bool} {ops : Int} (h : Disk K w d sb S pv P fuse down ops) {r : Nat} (hr : K r) (o : Nat) (v : Value) : Disk K (w.setCell ⟨r, o, none⟩ v) d sb S pv P fuse down ops :=
  h.same (by simp) (heap_at _ _ _ _ _ (fun e => h.nd (e ▸ hr))) (heap_at _ _ _ _ _ (fun e => h.ns (e ▸ hr))) (fun k hk => heap_at _ _ _ _ _ (fun e => (h.np k hk).1 (e ▸ hr)))
theorem May.cut {K : Nat → Prop} {w : World} {mb : Nat} {G : Nat → Nat} {M : List (List UInt8)} {t : Nat} (ht : t < M.length) (h : May K w mb G (cutM M t)) {off cap q : Nat} (hr : MRow w (.slice (some ⟨G t, off, none⟩) (q + 1) cap) (G t) M[t]) :
    May K (w.setCell ⟨mb, t, none⟩ (.slice (some ⟨G t, off + q, none⟩) 1 (cap - q))) mb G (cutM M (t + 1)) := by
  obtain ⟨hl, hn, _, hlast⟩ := hr.last (by omega)
  have hp := h.put (L := K) (w1 := w) (p := t) (by rw [cutM_length M t (by omega)]; exact ht) (fun k hk => hk) (fun k hk _ => rfl) hlast (.inl rfl) (h.ne t (by rw [cutM_length M t (by omega)]; exact ht)).2
  have hG : (fun i => if i = t then G t else G i) = G := by funext i; split <;> simp_all
  rw [hG] at hp
  rw [cutM_succ M t ht, lastB_get M[t] (by omega)]
  have e : (q + 1 - 1) = M[t].length - 1 := by omega
  simp only [Nat.add_sub_cancel] at hp hl e
  have e2 : [M[t][q]] = [M[t][M[t].length - 1]'(by omega)] := by congr 1; congr 1
  rw [e2] at hp
  exact hp
end Go.Proofs.Ytplngodilalbhaa
