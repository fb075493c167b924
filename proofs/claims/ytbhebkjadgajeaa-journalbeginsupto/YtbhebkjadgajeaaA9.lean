/- Contracts: Home and OfHome, the program's and the reference's. -/
import Derived.Test.YtbhebkjadgajeaaA8
namespace Go.Proofs.Ytbhebkjadgajeaa
open Go.RowKit
abbrev z480 : ByteArray := bs (List.replicate 480 0)
abbrev z512 : ByteArray := bs (List.replicate 512 0)
theorem allZ_zero {p : ByteArray} (hs : p.size = 480) (h : allZ p.data.toList = true) : p = z480 := by
  apply ByteArray.ext; apply Array.toList_inj.1
  show _ = (bs _).data.toList
  rw [bs_toList, List.eq_replicate_iff]
  refine ⟨by rw [← blen, hs], fun b hb => ?_⟩
  unfold allZ at h
  rw [List.all_eq_true] at h
  exact beq_iff_eq.1 (h b hb)
theorem allZ_not {p : ByteArray} (h : allZ p.data.toList = false) : p ≠ z480 := by
  rintro rfl
  rw [bs_toList] at h
  unfold allZ at h
  rw [List.all_eq_false] at h
  obtain ⟨x, hx, hn⟩ := h
  rw [List.eq_of_mem_replicate hx] at hn
  simp at hn
end Go.Proofs.Ytbhebkjadgajeaa
