/- TopHomes: behind a flush every page is the last one. -/
import Derived.Test.YtplngodilalbhaaH7
namespace Go.Proofs.Ytplngodilalbhaa
open Go.RowKit Go.Shelf
/-- The first t rows cut to their last. -/
def cutM (M : List (List UInt8)) (t : Nat) : List (List UInt8) := (M.take t).map (fun l => [lastB l]) ++ M.drop t
theorem cutM_length (M : List (List UInt8)) (t : Nat) (h : t ≤ M.length) : (cutM M t).length = M.length := by simp [cutM]; omega
theorem cutM_zero (M : List (List UInt8)) : cutM M 0 = M := by simp [cutM]
theorem cutM_all (M : List (List UInt8)) : cutM M M.length = M.map fun l => [lastB l] := by simp [cutM]
theorem cutM_get (M : List (List UInt8)) (t : Nat) (h : t < M.length) : ∃ h', (cutM M t)[t]'h' = M[t] := by
  refine ⟨by rw [cutM_length M t (by omega)]; exact h, ?_⟩
  unfold cutM
  rw [List.getElem_append_right (by simp; omega)]
  simp [List.length_map, List.length_take, Nat.min_eq_left (Nat.le_of_lt h)]
theorem cutM_succ (M : List (List UInt8)) (t : Nat) (h : t < M.length) : cutM M (t + 1) = (cutM M t).set t [lastB M[t]] := by
  unfold cutM
  have e : ((M.take t).map (fun l => [lastB l])).length = t := by simp; omega
  rw [List.set_append_right _ _ (by omega), e, Nat.sub_self, List.take_succ_eq_append_getElem h, List.map_append, List.drop_eq_getElem_cons h, List.set_cons_zero, List.append_assoc]
  rfl
theorem lastB_get (l : List UInt8) (h : l.length - 1 < l.length) : lastB l = l[l.length - 1] := by
  unfold lastB
  rw [List.getLastD_eq_getLast?, List.getLast?_eq_getElem?, List.getElem?_eq_getElem h]
  rfl
theorem Disk.setM {K : Nat → Prop} {w : World} {d sb : Nat} {S : List ByteArray} {pv : Value} {P : List (Int × ByteArray)} {fuse : Int} {down : Bool} {ops : Int} (h : Disk K w d sb S pv P fuse down ops) {r : Nat} (hr : K r) (o : Nat) (v : Value) : Disk K (w.setCell ⟨r, o, none⟩ v) d sb S pv P fuse down ops :=
  h.same (by simp) (heap_at _ _ _ _ _ (fun e => h.nd (e ▸ hr))) (heap_at _ _ _ _ _ (fun e => h.ns (e ▸ hr))) (fun k hk => heap_at _ _ _ _ _ (fun e => (h.np k hk).1 (e ▸ hr)))
theorem May.cut {K : Nat → Prop} {w : World} {mb : Nat} {G : Nat → Nat} {M : List (List UInt8)} {t : Nat} (ht : t < M.length) (h : May K w mb G (cutM M t)) {off cap q : Nat} (hr : MRow w (.slice (some ⟨G t, off, none⟩) (q + 1) cap) (G t) M[t]) :
    May K (w.setCell ⟨mb, t, none⟩ (.slice (some ⟨G t, off + q, none⟩) 1 (cap - q))) mb G (cutM M (t + 1)) := by
  obtain ⟨hl, hn, _, hlast⟩ := hr.last (by omega)
  have hp := h.put (L := K) (w1 := w) (p := t) (by rw [cutM_length M t (by omega)]; exact ht) (fun k hk => hk) (fun k hk _ => rfl) hlast (.inl rfl) (h.ne t (by rw [cutM_length M t (by omega)]; exact ht)).2
  have hG : (fun i => if i = t then G t else G i) = G := by funext i; split <;> simp_all
  rw [hG] at hp
  rw [cutM_succ M t ht, lastB_get M[t] (by omega)]
  have e : (q + 1 - 1) = M[t].length - 1 := by omega
  simp only [Nat.add_sub_cancel] at hp hl e
  have e2 : [M[t][q]] = [M[t][M[t].length - 1]'(by omega)] := by congr 1; congr 1
  rw [e2] at hp
  exact hp
end Go.Proofs.Ytplngodilalbhaa
