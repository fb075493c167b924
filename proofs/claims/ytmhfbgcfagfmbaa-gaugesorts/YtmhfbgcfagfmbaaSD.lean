/- gauge.Sort: a new slice, a permutation, ascending. -/
import Derived.Test.YtmhfbgcfagfmbaaShelf
import Derived.Test.YtmhfbgcfagfmbaaSA
import Derived.Test.YtmhfbgcfagfmbaaFF
import Derived.Shelf.SlicesE.Clone
namespace Go.Proofs.Ytmhfbgcfagfmbaa
open Go.Shelf Go.RowKit Go.Lib Go.Sort

theorem sw_below {w0 W : World} {blk off : Nat} {d : Array F64} (h : SW encF w0 blk off d W) {B : Nat} (hB : B ≤ blk) (hB2 : B ≤ w0.heap.size) : Below B w0 W := by
  obtain ⟨n, os, rfl⟩ := h
  refine ⟨rfl, rfl, rfl, SW.le (enc := encF) ⟨n, os, rfl⟩, fun k hk => ?_⟩
  unfold sortWorld grow putRow mapBlock
  simp only
  rw [Array.getElem?_append_left (by simp [Sort.ahead]; omega)]
  rw [Array.getElem?_modify, if_neg (by omega)]
  rfl

/-- A list of float64 as an array of them. -/
def toF1 (z : Nat) : F64 := ⟨z % 18446744073709551616, by unfold Fit; omega⟩
theorem toF1_val {z : Nat} (h : Fit z) : (toF1 z).1 = z := Nat.mod_eq_of_lt h
def toF (zs : List Nat) : Array F64 := (zs.map toF1).toArray
theorem toF_size (zs : List Nat) : (toF zs).size = zs.length := by simp [toF]
theorem toF_get {zs : List Nat} (hf : ∀ z ∈ zs, Fit z) {j : Nat} (hj : j < zs.length) : ((toF zs)[j]!).1 = zs.getD j 0 := by
  have hz := toF1_val (hf _ (List.getElem_mem hj))
  rw [getElem!_pos (toF zs) j (by rw [toF_size]; exact hj)]
  simp [toF, hz, hj]
theorem toF_vals {zs : List Nat} (hf : ∀ z ∈ zs, Fit z) : (toF zs).toList.map (·.1) = zs := by
  simp only [toF, List.map_map]
  conv => rhs; rw [← List.map_id zs]
  exact List.map_congr_left fun z hz => toF1_val (hf z hz)

/-- What gauge.Sort gives. -/
def SortRet (zs : List Nat) (len : Nat) (w : World) (e : Ending) (w' : World) : Prop :=
  ∃ a' cap' ys, e = .returned (.slice a' len cap') ∧ Flts w' a' len ys ∧ ys.Perm zs ∧ (∀ i j, i < j → j < len → tk (ys.getD i 0) ≤ tk (ys.getD j 0)) ∧ Below w.heap.size w w'

/-- Out of the sorted array. -/
theorem SortRet.of {zs : List Nat} {len : Nat} {w w0 w' : World} {g cap : Nat} {d' : Array F64} (hl : zs.length = len) (hf : ∀ z ∈ zs, Fit z) (hB : Below w.heap.size w w0) (hg : w.heap.size ≤ g) (hgs : g < w0.heap.size) (hH : Holds encF w0 g 0 (toF zs))
    (hp : PermIn 0 len (toF zs) d') (hq : SortedIn (ltOf cfO) 0 len d') (S : SW encF w0 g 0 d' w') : SortRet zs len w (.returned (.slice (some ⟨g, 0, none⟩) len cap)) w' := by
  have hs : d'.size = len := by rw [hp.1, toF_size, hl]
  have hH' := S.holds hgs hH hp.1
  have hv : ∀ j, j < len → (d'.toList.map (·.1)).getD j 0 = (d'[j]!).1 := fun j hj => by
    rw [getElem!_pos d' j (by omega)]
    simp [hs, hj]
  refine ⟨_, _, d'.toList.map (·.1), rfl, ⟨by simp [hs], ?_, .inr ⟨g, 0, rfl, fun j hj => ?_⟩⟩, ?_, ?_, hB.trans (sw_below S hg hB.size)⟩
  · intro z hz
    obtain ⟨x, _, rfl⟩ := List.mem_map.1 hz
    exact x.2
  · rw [hv j hj]; exact (hH' j (by omega)).1
  · have h := hp.2.2
    have e1 : d'.extract 0 len = d' := by rw [← hs]; simp
    have e2 : (toF zs).extract 0 len = toF zs := by rw [← hl, ← toF_size]; simp
    rw [e1, e2] at h
    have h2 := h.map (·.1)
    rwa [toF_vals hf] at h2
  · intro i j hij hj
    rw [hv i (by omega), hv j hj]
    have h := hq i j (Nat.zero_le _) hij hj
    rw [ltO] at h
    have := of_decide_eq_false h
    omega

theorem ins_none (p : Option Addr) (cap : Nat) (fv : Value) (w : World) : Calls Try.prog 82 #[.slice p 0 cap, .int .i64 0, .int .i64 0, fv] w fun e w' => e = .returned (.tuple #[]) ∧ w = w' := by
  go_enter Try.func82, Try.ntmps82
  go_wp2
  go_loopg [8] 0 (fun _ s8 wr => s8 = .int .i64 1 ∧ wr = w)
  case atStart => exact ⟨rfl, rfl⟩
  case round =>
    obtain ⟨rfl, rfl⟩ := hrel
    go_wp2
    go_end0
    exact ⟨rfl, rfl⟩
theorem blocks_none (p : Option Addr) (cap : Nat) (fv : Value) (w : World) : Calls Try.prog 79 #[.slice p 0 cap, .int .i64 0, fv] w fun e w' => e = .returned (.tuple #[]) ∧ w = w' := by
  go_enter Try.func79, Try.ntmps79
  go_wp2
  go_loopg [7, 8] 0 (fun _ s7 s8 wr => s7 = .int .i64 0 ∧ s8 = .int .i64 20 ∧ wr = w)
  case atStart => exact ⟨rfl, rfl, rfl⟩
  case round =>
    obtain ⟨rfl, rfl, rfl⟩ := hrel
    go_wp2_with fail
    refine (ins_none p cap fv _).mono ?_
    rintro e w' ⟨rfl, rfl⟩
    go_wp2_with fail
    go_loopg [6] 0 (fun _ s6 wr' => s6 = .int .i64 20 ∧ wr' = wr)
    case atStart => exact ⟨rfl, rfl⟩
    case round =>
      obtain ⟨rfl, rfl⟩ := hrel
      go_wp2
      go_end0
      exact ⟨rfl, rfl⟩
theorem stable_none (p : Option Addr) (cap : Nat) (w : World) : Calls Try.prog 71 #[.slice p 0 cap, .func (.func 53) #[] #[]] w fun e w' => e = .returned (.tuple #[]) ∧ w = w' := by
  go_enter Try.func71, Try.ntmps71
  go_wp2_with fail
  refine (blocks_none p cap _ _).mono ?_
  rintro e w' ⟨rfl, rfl⟩
  go_wp2
  go_end0
  exact ⟨rfl, rfl⟩

end Go.Proofs.Ytmhfbgcfagfmbaa
