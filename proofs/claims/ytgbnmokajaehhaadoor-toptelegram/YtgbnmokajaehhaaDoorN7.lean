/- Contracts: the string of a word. -/
import Derived.Test.YtgbnmokajaehhaaDoorN6
import Derived.BigQuiet
namespace Go.Proofs.YtgbnmokajaehhaaDoor
open Go.RowKit Go.Sort
set_option linter.unusedVariables false
def hexL : List UInt8 := [48, 49, 50, 51, 52, 53, 54, 55, 56, 57, 65, 66, 67, 68, 69, 70]
def hexV (c : UInt8) : Nat := (max (Lib.indexByte hexL c) 0).toNat
theorem hexV_all : ∀ c : Fin 256, hexV (UInt8.ofNat c.val) < 16 := by decide +kernel
theorem hexV_lt (c : UInt8) : hexV c < 16 := by
  have h := hexV_all ⟨c.toNat, c.toNat_lt⟩
  simpa using h
theorem hexValue_any (c : UInt8) (w : World) : Calls Tryd.prog 67 #[.int .u8 (c.toNat : Int)] w fun e w' => e = .returned (.int .u8 (hexV c : Int)) ∧ w = w' := by
  have hl := hexV_lt c
  obtain ⟨x, hx⟩ : ∃ x, Lib.indexByte hexL c = x := ⟨_, rfl⟩
  have hm : max x 0 = (hexV c : Int) := by unfold hexV; rw [hx]; omega
  have HI := Lib.hid (fun w => Tryd.strings_IndexByte ⟨#[48, 49, 50, 51, 52, 53, 54, 55, 56, 57, 65, 66, 67, 68, 69, 70]⟩ (c.toNat : Int) w)
  have he : Lib.indexByte (ByteArray.mk #[48, 49, 50, 51, 52, 53, 54, 55, 56, 57, 65, 66, 67, 68, 69, 70]).data.toList ((c.toNat : Int)).toNat.toUInt8 = x := by
    rw [← hx]; congr 1; simp
  rw [he] at HI
  obtain ⟨h, hh⟩ : ∃ h, hexV c = h := ⟨_, rfl⟩
  rw [hh] at hm hl ⊢
  clear he hx hh
  go_enter Tryd.func67, Tryd.ntmps67
  go_wp2_with fail
  refine (HI.out _).mono ?_
  rintro e w' ⟨rfl, rfl⟩
  go_wp2
  go_ret
  exact ⟨rfl, rfl⟩
def escB (a b : UInt8) : UInt8 := UInt8.ofNat (16 * hexV a + hexV b)
def unescL : List UInt8 → List UInt8
  | [] => []
  | [c] => [c]
  | [c, d] => [c, d]
  | c :: a :: b :: r => if c = 37 then escB a b :: unescL r else c :: unescL (a :: b :: r)
theorem unescL_plain (c : UInt8) (l : List UInt8) (h : c ≠ 37 ∨ l.length < 2) : unescL (c :: l) = c :: unescL l := by
  match l with
  | [] => rfl
  | [d] => rfl
  | a :: b :: r =>
    have : c ≠ 37 := by rcases h with h | h; exact h; simp at h; omega
    rw [unescL, if_neg this]
theorem unescL_esc (a b : UInt8) (l : List UInt8) : unescL (37 :: a :: b :: l) = escB a b :: unescL l := by rw [unescL, if_pos rfl]
theorem ext_drop (q : ByteArray) (n : Nat) (h : n ≤ q.size) : (q.extract n q.size).data.toList = q.data.toList.drop n := by
  rw [ByteArray.data_extract, Array.toList_extract]
  show (q.data.toList.drop n).take (q.data.size - n) = _
  rw [List.take_of_length_le (by rw [List.length_drop, Array.length_toList]; exact Nat.le_refl _)]
theorem ext_drop_size (q : ByteArray) (n : Nat) (h : n ≤ q.size) : (q.extract n q.size).size = q.size - n := by rw [blen, ext_drop q n h, List.length_drop, ← blen]
theorem drop1 (q : ByteArray) (h : 0 < q.size) : q.data.toList = q[0] :: q.data.toList.drop 1 := by
  have h1 : 0 < q.data.toList.length := by rw [← blen]; exact h
  have := List.drop_eq_getElem_cons h1
  rw [List.drop_zero] at this
  exact this
theorem drop3 (q : ByteArray) (h : 2 < q.size) : q.data.toList = q[0] :: q[1] :: q[2] :: q.data.toList.drop 3 := by
  have h1 : 2 < q.data.toList.length := by rw [← blen]; exact h
  have e0 := List.drop_eq_getElem_cons (i := 0) (l := q.data.toList) (by omega)
  have e1 := List.drop_eq_getElem_cons (i := 1) (l := q.data.toList) (by omega)
  have e2 := List.drop_eq_getElem_cons (i := 2) (l := q.data.toList) (by omega)
  rw [List.drop_zero] at e0
  rw [e1, e2] at e0
  exact e0
theorem or16 : ∀ a b : Fin 16, bits .or .u8 (((a.val : Nat) : Int) * 16) ((b.val : Nat) : Int) = ((UInt8.ofNat (16 * a.val + b.val)).toNat : Int) := by decide +kernel
end Go.Proofs.YtgbnmokajaehhaaDoor
