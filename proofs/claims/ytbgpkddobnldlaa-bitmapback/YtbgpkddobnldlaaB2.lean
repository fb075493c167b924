/- Contracts: isBitmap, exists, isRange, Within, mask, Used. -/
import Derived.Test.YtbgpkddobnldlaaRows
import Derived.Test.YtbgpkddobnldlaaB1
import Derived.WalkKit
import Derived.WalkLawsBesides
import Derived.WalkSpells
import Derived.Lib.Hide
import Derived.Laws.BitsAll
import Derived.Outline
import Derived.Laws.IdiomStrings
import Derived.RegionTactic
import Derived.BigRegion
import Derived.Deep.QuietTactic
import Derived.BigQuiet
import Derived.IntWalk
import Derived.Laws.MakeOwn
namespace Go.Proofs.Ytbgpkddobnldlaa
open Go.RowKit
theorem ret_bool {a b : Bool} (h : a = b) : Ending.returned (.bool a) = .returned (.bool b) := by rw [h]
theorem ret_int {k : IntKind} {a b : Int} (h : a = b) : Ending.returned (.int k a) = .returned (.int k b) := by rw [h]
theorem below_to {w w1 w2 : World} (h : Below w.heap.size w w1) (h2 : Below w1.heap.size w1 w2) : Below w.heap.size w w2 := h.trans (h2.mono h.size)
theorem quiet_same {P : Program} {f : FuncId} {args : Array Value} {w : World} {n : Nat} {v : Value}
    (h : Calls P f args (w.drewN n) fun e w' => e = .returned v ∧ w.drewN n = w') : Calls P f args (w.drewN n) fun e w'' => e = .returned v ∧ ∃ m, w'' = w.drewN m :=
  h.mono fun _ _ ⟨he, hm⟩ => ⟨he, n, hm.symm⟩
theorem below_drewN (w : World) (n : Nat) : Below w.heap.size w (w.drewN n) := ⟨rfl, rfl, rfl, Nat.le_refl _, fun _ _ => rfl⟩
/-- A string of bytes. -/
def bs (l : List UInt8) : ByteArray := ⟨l.toArray⟩
theorem bs_toList (l : List UInt8) : (bs l).data.toList = l := by simp [bs]
theorem bs_size (l : List UInt8) : (bs l).size = l.length := by simp [bs, ByteArray.size]
theorem bs_of (s : ByteArray) : bs s.data.toList = s := by simp [bs]
theorem blen (b : ByteArray) : b.size = b.data.toList.length := by simp
theorem isBitmap_yes (s : ByteArray) (w : World) (h : s.size = 480) : Calls Try.prog 22 #[.string s] w fun e w' => e = .returned (.bool true) ∧ w = w' := by
  have hd : ((s.size : Int) == 480) = true := by rw [beq_iff_eq]; omega
  clear h
  go_enter Try.func22, Try.ntmps22
  go_wp2
  go_ret
  first | exact ⟨rfl, rfl⟩ | exact ⟨ret_bool hd, rfl⟩
theorem isBitmap_no (s : ByteArray) (w : World) (h : s.size ≠ 480) : Calls Try.prog 22 #[.string s] w fun e w' => e = .returned (.bool false) ∧ w = w' := by
  have hd : ((s.size : Int) == 480) = false := by rw [beq_eq_false_iff_ne]; omega
  clear h
  go_enter Try.func22, Try.ntmps22
  go_wp2
  go_ret
  first | exact ⟨rfl, rfl⟩ | exact ⟨ret_bool hd, rfl⟩
theorem exists_yes (i : Int) (w : World) (h1 : 0 ≤ i) (h2 : i < 3840) : Calls Try.prog 23 #[.int .i64 i] w fun e w' => e = .returned (.bool true) ∧ w = w' := by
  go_enter Try.func23, Try.ntmps23
  go_wp2
  go_ret
  first | exact ⟨rfl, rfl⟩ | exact ⟨ret_bool (by first | (simp; done) | (simp; omega)), rfl⟩
theorem exists_no (i : Int) (w : World) (h : ¬ (0 ≤ i ∧ i < 3840)) : Calls Try.prog 23 #[.int .i64 i] w fun e w' => e = .returned (.bool false) ∧ w = w' := by
  by_cases h1 : 0 ≤ i
  · have h2 : ¬ i < 3840 := by omega
    clear h
    go_enter Try.func23, Try.ntmps23
    go_wp2
    go_ret
    first | exact ⟨rfl, rfl⟩ | exact ⟨ret_bool (by first | (simp; done) | (simp; omega)), rfl⟩
  · clear h
    go_enter Try.func23, Try.ntmps23
    go_wp2
    go_ret
    first | exact ⟨rfl, rfl⟩ | exact ⟨ret_bool (by first | (simp; done) | (simp; omega)), rfl⟩
theorem isRange_yes (a b : Int) (w : World) (h1 : 0 ≤ a) (h2 : a ≤ b) (h3 : b ≤ 3840) : Calls Try.prog 26 #[.int .i64 a, .int .i64 b] w fun e w' => e = .returned (.bool true) ∧ w = w' := by
  go_enter Try.func26, Try.ntmps26
  go_wp2
  go_ret
  first | exact ⟨rfl, rfl⟩ | exact ⟨ret_bool (by first | (simp; done) | (simp; omega)), rfl⟩
theorem isRange_no (a b : Int) (w : World) (h : ¬ (0 ≤ a ∧ a ≤ b ∧ b ≤ 3840)) : Calls Try.prog 26 #[.int .i64 a, .int .i64 b] w fun e w' => e = .returned (.bool false) ∧ w = w' := by
  by_cases h1 : 0 ≤ a
  · by_cases h2 : a ≤ b
    · have h3 : ¬ b ≤ 3840 := by omega
      clear h
      go_enter Try.func26, Try.ntmps26
      go_wp2
      go_ret
      first | exact ⟨rfl, rfl⟩ | exact ⟨ret_bool (by first | (simp; done) | (simp; omega)), rfl⟩
    · clear h
      go_enter Try.func26, Try.ntmps26
      go_wp2
      go_ret
      first | exact ⟨rfl, rfl⟩ | exact ⟨ret_bool (by first | (simp; done) | (simp; omega)), rfl⟩
  · clear h
    go_enter Try.func26, Try.ntmps26
    go_wp2
    go_ret
    first | exact ⟨rfl, rfl⟩ | exact ⟨ret_bool (by first | (simp; done) | (simp; omega)), rfl⟩
theorem within_yes (s : ByteArray) (a b : Int) (w : World) (h : s.size = 480) (h1 : 0 ≤ a) (h2 : a ≤ b) (h3 : b ≤ 3840) : Calls Try.prog 28 #[.string s, .int .i64 a, .int .i64 b] w fun e w' => e = .returned (.bool true) ∧ w = w' := by
  have hd : ((s.size : Int) == 480) = true := by rw [beq_iff_eq]; omega
  clear h
  go_enter Try.func28, Try.ntmps28
  go_wp2
  go_ret
  first | exact ⟨rfl, rfl⟩ | exact ⟨ret_bool (by first | (simp; done) | (simp; omega)), rfl⟩
theorem within_no (s : ByteArray) (a b : Int) (w : World) (h : ¬ (s.size = 480 ∧ 0 ≤ a ∧ a ≤ b ∧ b ≤ 3840)) : Calls Try.prog 28 #[.string s, .int .i64 a, .int .i64 b] w fun e w' => e = .returned (.bool false) ∧ w = w' := by
  by_cases hs : s.size = 480
  · have hd : ((s.size : Int) == 480) = true := by rw [beq_iff_eq]; omega
    by_cases h1 : 0 ≤ a
    · by_cases h2 : a ≤ b
      · have h3 : ¬ b ≤ 3840 := by omega
        clear h hs
        go_enter Try.func28, Try.ntmps28
        go_wp2
        go_ret
        first | exact ⟨rfl, rfl⟩ | exact ⟨ret_bool (by first | (simp; done) | (simp; omega)), rfl⟩
      · clear h hs
        go_enter Try.func28, Try.ntmps28
        go_wp2
        go_ret
        first | exact ⟨rfl, rfl⟩ | exact ⟨ret_bool (by first | (simp; done) | (simp; omega)), rfl⟩
    · clear h hs
      go_enter Try.func28, Try.ntmps28
      go_wp2
      go_ret
      first | exact ⟨rfl, rfl⟩ | exact ⟨ret_bool (by first | (simp; done) | (simp; omega)), rfl⟩
  · have hd : ((s.size : Int) == 480) = false := by rw [beq_eq_false_iff_ne]; omega
    clear h hs
    go_enter Try.func28, Try.ntmps28
    go_wp2
    go_ret
    first | exact ⟨rfl, rfl⟩ | exact ⟨ret_bool (by first | (simp; done) | (simp; omega)), rfl⟩
theorem pow_mod (k : Nat) (h : k < 8) : (2 : Int) ^ k % 256 = ((2 ^ k : Nat) : Int) := by
  have h2 : 2 ^ k < 256 := Nat.pow_lt_pow_right (by omega) (show k < 8 from h)
  have e : (2 : Int) ^ k = ((2 ^ k : Nat) : Int) := by simp
  rw [e]
  generalize 2 ^ k = x at h2
  omega
theorem mask_any (i : Nat) (w : World) (h : i < 3840) : Calls Try.prog 25 #[.int .i64 (i : Int)] w fun e w' => e = .returned (.int .u8 ((2 ^ (i % 8) : Nat) : Int)) ∧ w = w' := by
  have HP := Lib.hid (pow_mod (i % 8) (by omega))
  go_enter Try.func25, Try.ntmps25
  go_wp2
  go_ret
  exact ⟨ret_int HP.out, rfl⟩
theorem and_fin : ∀ c : Fin 256, ∀ k : Fin 8, ((bits .and .u8 (c.val : Int) ((2 ^ k.val : Nat) : Int)) != 0) = bitC (UInt8.ofNat c.val) k.val := by decide +kernel
theorem and_bit (c : UInt8) (k : Nat) (hk : k < 8) : ((bits .and .u8 (c.toNat : Int) ((2 ^ k : Nat) : Int)) != 0) = bitC c k := by
  have := and_fin ⟨c.toNat, c.toNat_lt⟩ ⟨k, hk⟩
  simpa using this
theorem or_fin : ∀ c : Fin 256, ∀ k : Fin 8, (bits .or .u8 (c.val : Int) ((2 ^ k.val : Nat) : Int)) = ((setC (UInt8.ofNat c.val) k.val true).toNat : Int) := by decide +kernel
theorem or_bit (c : UInt8) (k : Nat) (hk : k < 8) : (bits .or .u8 (c.toNat : Int) ((2 ^ k : Nat) : Int)) = ((setC c k true).toNat : Int) := by
  have := or_fin ⟨c.toNat, c.toNat_lt⟩ ⟨k, hk⟩
  simpa using this
theorem andNot_fin : ∀ c : Fin 256, ∀ k : Fin 8, (bits .andNot .u8 (c.val : Int) ((2 ^ k.val : Nat) : Int)) = ((setC (UInt8.ofNat c.val) k.val false).toNat : Int) := by decide +kernel
theorem andNot_bit (c : UInt8) (k : Nat) (hk : k < 8) : (bits .andNot .u8 (c.toNat : Int) ((2 ^ k : Nat) : Int)) = ((setC c k false).toNat : Int) := by
  have := andNot_fin ⟨c.toNat, c.toNat_lt⟩ ⟨k, hk⟩
  simpa using this
theorem at_bit (s : ByteArray) (i : Nat) (h : i / 8 < s.size) : bitL s.data.toList i = bitC s[i / 8] (i % 8) := by
  unfold bitL
  congr 1
  rw [List.getD_eq_getElem?_getD, List.getElem?_eq_getElem (by simpa using h)]
  simp [ByteArray.getElem_eq_getElem_data]
theorem used_no1 (s : ByteArray) (i : Int) (w : World) (h : s.size ≠ 480) : Calls Try.prog 9 #[.string s, .int .i64 i] w fun e w' => e = .returned (.bool false) ∧ Below w.heap.size w w' := by
  have H := Lib.hid h
  clear h
  go_enter Try.func9, Try.ntmps9
  go_wp2_with fail
  go_quiet ((go_at_call 22; exact quiet_same (isBitmap_no _ _ H.out)))
  go_wp2
  go_ret
  exact ⟨rfl, below_drewN _ _⟩
theorem used_no2 (s : ByteArray) (i : Int) (w : World) (hs : s.size = 480) (h : ¬ (0 ≤ i ∧ i < 3840)) : Calls Try.prog 9 #[.string s, .int .i64 i] w fun e w' => e = .returned (.bool false) ∧ Below w.heap.size w w' := by
  have H := Lib.hid hs
  have H2 := Lib.hid h
  clear h hs
  go_enter Try.func9, Try.ntmps9
  go_wp2_with fail
  go_quiet ((first | (go_at_call 22; exact quiet_same (isBitmap_yes _ _ H.out)) | (go_at_call 23; exact quiet_same (exists_no _ _ H2.out))))
  go_wp2
  go_ret
  exact ⟨rfl, below_drewN _ _⟩
theorem used_yes (s : ByteArray) (i : Nat) (w : World) (hs : s.size = 480) (h : i < 3840) : Calls Try.prog 9 #[.string s, .int .i64 (i : Int)] w fun e w' => e = .returned (.bool (bitL s.data.toList i)) ∧ Below w.heap.size w w' := by
  have H := Lib.hid hs
  obtain ⟨q, hq⟩ : ∃ q, i / 8 = q := ⟨_, rfl⟩
  have hx : q < s.size := by omega
  have hB := at_bit s i (by omega)
  have hA := and_bit s[i / 8] (i % 8) (by omega)
  have hw : IntKind.i64.wrap ((i : Int) / 8) = (q : Int) := by rw [IntWalk.i64_in _ (by omega)]; omega
  rw [← hB] at hA
  have HA : Hid (((bits .and .u8 (s[q].toNat : Int) ((2 ^ (i % 8) : Nat) : Int)) != 0) = bitL s.data.toList i) := by
    subst hq; exact Lib.hid hA
  clear hs hA hB hq
  go_enter Try.func9, Try.ntmps9
  go_wp2_with fail
  go_quiet ((first | (go_at_call 22; exact quiet_same (isBitmap_yes _ _ H.out)) | (go_at_call 23; exact quiet_same (exists_yes _ _ (by omega) (by omega))) | (go_at_call 25; exact quiet_same (mask_any _ _ h))))
  go_wp2
  go_ret
  exact ⟨ret_bool HA.out, below_drewN _ _⟩
/-- Used, whatever it is asked. -/
theorem used_any (s : ByteArray) (i : Int) (w : World) : Calls Try.prog 9 #[.string s, .int .i64 i] w fun e w' => e = .returned (.bool (usedL s.data.toList i)) ∧ Below w.heap.size w w' := by
  by_cases hs : s.size = 480
  · by_cases h : 0 ≤ i ∧ i < 3840
    · obtain ⟨n, rfl⟩ := Int.eq_ofNat_of_zero_le h.1
      rw [used_bit _ (by rw [← blen]; exact hs) n (by omega)]
      exact used_yes s n w hs (by omega)
    · rw [used_not _ _ (fun x => h x.2)]
      exact used_no2 s i w hs h
  · rw [used_not _ _ (fun x => hs (by rw [blen]; exact x.1))]
    exact used_no1 s i w hs
end Go.Proofs.Ytbgpkddobnldlaa
