/- Contracts: numbers as bytes, and back. -/
import Derived.Test.YtnjpijihjifkfaaO1
import Derived.Test.YtnjpijihjifkfaaC6
import Derived.Laws.MakeOwn
namespace Go.Proofs.Ytnjpijihjifkfaa
open Go.RowKit
/-- A string of bytes. -/
def bs (l : List UInt8) : ByteArray := ⟨l.toArray⟩
theorem bs_toList (l : List UInt8) : (bs l).data.toList = l := by simp [bs]
theorem bs_size (l : List UInt8) : (bs l).size = l.length := by simp [bs, ByteArray.size]
theorem bs_of (s : ByteArray) : bs s.data.toList = s := by simp [bs]
def isW (n : Int) : Bool := decide (1 ≤ n) && decide (n ≤ 8)
theorem isWidth_yes (n : Int) (w : World) (h1 : 1 ≤ n) (h2 : n ≤ 8) : Calls Try.prog 78 #[.int .i64 n] w fun e w' => e = .returned (.bool true) ∧ w = w' := by
  go_enter Try.func78, Try.ntmps78
  go_wp2
  go_ret
  first | exact ⟨rfl, rfl⟩ | exact ⟨ret_bool (by first | (simp; done) | (simp; omega)), rfl⟩
theorem isWidth_no (n : Int) (w : World) (h : n < 1 ∨ 8 < n) : Calls Try.prog 78 #[.int .i64 n] w fun e w' => e = .returned (.bool false) ∧ w = w' := by
  by_cases h1 : 1 ≤ n
  · have h2 : 8 < n := by omega
    go_enter Try.func78, Try.ntmps78
    go_wp2
    go_ret
    first | exact ⟨rfl, rfl⟩ | exact ⟨ret_bool (by first | (simp; done) | (simp; omega)), rfl⟩
  · go_enter Try.func78, Try.ntmps78
    go_wp2
    go_ret
    first | exact ⟨rfl, rfl⟩ | exact ⟨ret_bool (by first | (simp; done) | (simp; omega)), rfl⟩
theorem info5 : (Try.prog.info? 5).map (fun i => (i.zero, i.size, i.bytes)) = some (some (.int .u8 0), 1, 1) := by kernel_rfl
set_option maxRecDepth 100000 in
theorem run_make5 (w : World) (m : Nat) (hm : m ≤ 1099511627776) :
    (Instr.makeSlice 85 (.int .i64 (m : Int)) (.int .i64 (m : Int))).run Try.prog w = .ok (.slice (some ⟨w.heap.size, 0, none⟩) m m) (w.alloc (.cells (Array.replicate m (.int .u8 0)) 5)) := by
  obtain ⟨i0, hi, hz0, hz1, hz2⟩ := info_parts info5
  have := run_make (P := Try.prog) w 85 5 i0 _ Try.underlying85 hi hz0 .i64 .i64 m m (by omega) (by omega) (by rw [hz2]; omega) (by omega)
  rw [this]
  simp only [Int.toNat_natCast]
  congr 3
  rw [hz1]
  apply Array.ext
  · simp [madeCells]
  · intro i h1 h2
    simp [madeCells, Value.cells, Nat.mod_one]
theorem BRow.zeros (w : World) (m : Nat) : BRow (w.alloc (.cells (Array.replicate m (.int .u8 0)) 5)) w.heap.size (List.replicate m 0) := by
  intro j hj
  have hj' : j < m := by simpa using hj
  have hg : (w.alloc (.cells (Array.replicate m (.int .u8 0)) 5)).heap[w.heap.size]? = some (.cells (Array.replicate m (.int .u8 0)) 5 (0, 0)) := by
    show (w.heap.push _)[w.heap.size]? = _
    simp
  constructor
  · rw [cell_of_row _ _ j _ _ _ hg]
    simp [hj']
  · unfold World.frozen?
    simp only [hg]
    simp

theorem toStr (w : World) (b cap : Nat) (l : List UInt8) (h : BRow w b l) : (convert 85 9 (.slice (some ⟨b, 0, none⟩) l.length cap)).run Try.prog w = .ok (.string (bs l)) w :=
  run_convert_bytes_back (P := Try.prog) w 85 9 5 ⟨b, 0, none⟩ cap l Try.underlying85 Try.underlying5 Try.underlying9 (fun j hj => by
    have hadd : (⟨b, 0, none⟩ : Addr).add j = ⟨b, j, none⟩ := by unfold Addr.add; split <;> simp_all
    rw [hadd]; exact (h j hj).1)
theorem toStr' (w : World) (b n cap : Nat) (l : List UInt8) (h : BRow w b l) (hn : l.length = n) : (convert 85 9 (.slice (some ⟨b, 0, none⟩) n cap)).run Try.prog w = .ok (.string (bs l)) w := by
  subst hn; exact toStr w b cap l h
theorem byte_wf (n k : Nat) : (n : Int) / 2 ^ (8 * k) % 256 = ((UInt8.ofNat (n / 2 ^ (8 * k) % 256)).toNat : Int) := by
  simp
set_option maxHeartbeats 400000 in
theorem num_ok (m n : Nat) (w : World) (h1 : 1 ≤ m) (h2 : m ≤ 8) (_hn : n < 18446744073709551616) :
    Calls Try.prog 76 #[.int .i64 (m : Int), .int .u64 (n : Int)] w fun e w' => e = .returned (.string (bs (numL m n))) ∧ Below w.heap.size w w' := by
  have km := run_make5 w m (by omega)
  go_enter Try.func76, Try.ntmps76
  go_wp2_with (go_at_call 78; refine (isWidth_yes _ _ (by omega) (by omega)).mono ?_; rintro e w' ⟨rfl, rfl⟩)
  clear km
  go_loopw [13] (fun i wx => ∃ (k : Nat) (l : List UInt8), k ≤ m ∧ Hid (l = List.replicate (m - k) (0 : UInt8) ++ numL k n) ∧ BRow wx w.heap.size l ∧ Below w.heap.size w wx ∧ w.heap.size < wx.heap.size ∧ i = .int .i64 (k : Int)) (fun i _ => m - (intOf i).toNat)
  case atStart => exact ⟨0, _, by omega, Lib.hid rfl, by simpa [numL] using BRow.zeros w m, (Below.refl _ _).alloc (Nat.le_refl _) _, by simp, rfl⟩
  case round =>
    obtain ⟨k, l, hk, HL, HB, HW, hsz, rfl⟩ := hrel
    have hll : l.length = m := by rw [HL.out]; simp [numL_length]; omega
    by_cases hlt : k < m
    · obtain ⟨q, hq⟩ : ∃ q : Nat, q + k + 1 = m := ⟨m - 1 - k, by omega⟩
      obtain ⟨c, hcell, hfz⟩ : ∃ c : UInt8, wr.cell? ⟨w.heap.size, q, none⟩ = some (.int .u8 (c.toNat : Int)) ∧ wr.frozen? ⟨w.heap.size, q, none⟩ = false := ⟨_, HB q (by omega)⟩
      have hqz : (m : Int) - 1 - (k : Int) = (q : Int) := by omega
      have HQ := Lib.hid hq
      have HLL := Lib.hid hll
      clear hll hq
      have hby := Lib.hid (byte_wf n k)
      go_wp2
      go_roundw
      case rel =>
        refine ⟨k + 1, l.set q (UInt8.ofNat (n / 2 ^ (8 * k) % 256)), by omega, Lib.hid ?_, ?_, ?_, ?_, by go_num⟩
        · rw [HL.out, ← fill_step m k n hlt]; congr 1; have := HQ.out; omega
        · rw [hby.out]; exact HB.set q _
        · exact HW.setCell (p := ⟨w.heap.size, q, none⟩) (Nat.le_refl _) _
        · simpa using hsz
      case measure => simp [intOf]; omega
    · obtain rfl : k = m := by omega
      have hl : l = numL k n := by rw [HL.out]; simp
      subst hl
      have kb := toStr' wr w.heap.size k k _ HB hll
      clear hll HL
      go_wp2
      go_ret
      exact ⟨rfl, HW⟩
theorem num_no (m : Int) (n : Int) (w : World) (h : m < 1 ∨ 8 < m) :
    Calls Try.prog 76 #[.int .i64 m, .int .u64 n] w fun e w' => e = .returned (.string (bs [])) ∧ w = w' := by
  go_enter Try.func76, Try.ntmps76
  go_wp2_with (go_at_call 78; refine (isWidth_no _ _ h).mono ?_; rintro e w' ⟨rfl, rfl⟩)
  go_ret
  exact ⟨rfl, rfl⟩
theorem rnum_no (m : Int) (n : Int) (w : World) (h : m < 1 ∨ 8 < m) :
    Calls Try.prog 32 #[.int .i64 m, .int .u64 n] w fun e w' => e = .returned (.string (bs [])) ∧ w = w' := by
  by_cases h1 : m < 1
  · go_enter Try.func32, Try.ntmps32
    go_wp2
    go_ret
    exact ⟨rfl, rfl⟩
  · have h2 : 8 < m := by omega
    go_enter Try.func32, Try.ntmps32
    go_wp2
    go_ret
    exact ⟨rfl, rfl⟩
theorem div_next (n k : Nat) : n / 2 ^ (8 * k) / 256 = n / 2 ^ (8 * (k + 1)) := by
  rw [Nat.div_div_eq_div_mul, show 8 * (k + 1) = 8 * k + 8 by omega, Nat.pow_add]
set_option maxRecDepth 100000 in
set_option maxHeartbeats 400000 in
theorem rnum_ok (m n : Nat) (w : World) (h1 : 1 ≤ m) (h2 : m ≤ 8) (hn : n < 18446744073709551616) :
    Calls Try.prog 32 #[.int .i64 (m : Int), .int .u64 (n : Int)] w fun e w' => e = .returned (.string (bs (numL m n))) ∧ Below w.heap.size w w' := by
  have km := run_make5 w m (by omega)
  go_enter Try.func32, Try.ntmps32
  go_wp2
  clear km
  go_loopw [1, 6] (fun x i wx => ∃ (k v : Nat) (l : List UInt8), k ≤ m ∧ Hid (l = List.replicate (m - k) (0 : UInt8) ++ numL k n) ∧ Hid (v = n / 2 ^ (8 * k)) ∧ BRow wx w.heap.size l ∧ Below w.heap.size w wx ∧ w.heap.size < wx.heap.size ∧ i = .int .i64 ((m : Int) - 1 - (k : Int)) ∧ x = .int .u64 (v : Int)) (fun _ i _ => (intOf i + 1).toNat)
  case atStart => exact ⟨0, n, _, by omega, Lib.hid rfl, Lib.hid (by simp), by simpa [numL] using BRow.zeros w m, (Below.refl _ _).alloc (Nat.le_refl _) _, by simp, by simp, rfl⟩
  case round =>
    obtain ⟨k, v, l, hk, HL, HV, HB, HW, hsz, rfl, rfl⟩ := hrel
    have hll : l.length = m := by rw [HL.out]; simp [numL_length]; omega
    have hv : v < 18446744073709551616 := by rw [HV.out]; exact Nat.lt_of_le_of_lt (Nat.div_le_self _ _) hn
    by_cases hlt : k < m
    · obtain ⟨q, hq⟩ : ∃ q : Nat, q + k + 1 = m := ⟨m - 1 - k, by omega⟩
      obtain ⟨c, hcell, hfz⟩ : ∃ c : UInt8, wr.cell? ⟨w.heap.size, q, none⟩ = some (.int .u8 (c.toNat : Int)) ∧ wr.frozen? ⟨w.heap.size, q, none⟩ = false := ⟨_, HB q (by omega)⟩
      have hqz : (m : Int) - 1 - (k : Int) = (q : Int) := by omega
      have HQ := Lib.hid hq
      have HLL := Lib.hid hll
      clear hll hq
      have hby := Lib.hid (show (v : Int) % 256 = ((UInt8.ofNat (n / 2 ^ (8 * k) % 256)).toNat : Int) by rw [HV.out]; simp)
      go_wp2
      go_roundw
      case rel =>
        refine ⟨k + 1, v / 256, l.set q (UInt8.ofNat (n / 2 ^ (8 * k) % 256)), by omega, Lib.hid ?_, Lib.hid ?_, ?_, ?_, ?_, ?_, by simp⟩
        · rw [HL.out, ← fill_step m k n hlt]; congr 1; have := HQ.out; omega
        · rw [HV.out, div_next]
        · have := HB.set q (UInt8.ofNat (n / 2 ^ (8 * k) % 256)); rw [← hby.out] at this; simpa using this
        · exact HW.setCell (p := ⟨w.heap.size, q, none⟩) (Nat.le_refl _) _
        · simpa using hsz
        · congr 1; have := HQ.out; omega
      case measure => simp [intOf]; omega
    · obtain rfl : k = m := by omega
      have hl : l = numL k n := by rw [HL.out]; simp
      subst hl
      have kb := toStr' wr w.heap.size k k _ HB hll
      clear hll HL
      go_wp2
      go_ret
      exact ⟨rfl, HW⟩
theorem u64_not (n : Nat) (h : n < 18446744073709551616) : bits .xor .u64 IntKind.u64.max (n : Int) = ((18446744073709551615 - n : Nat) : Int) := by
  show IntKind.u64.wrap ((BitVec.ofInt 64 IntKind.u64.max ^^^ BitVec.ofInt 64 (n : Int)).toNat : Int) = _
  have h1 : BitVec.ofInt 64 IntKind.u64.max = BitVec.allOnes 64 := by decide
  rw [h1, BitVec.allOnes_xor, BitVec.toNat_not, ofInt_u64 n (by omega), IntKind.wrap_u64]
  omega
theorem or_byte (v c : Nat) (hv : v < 72057594037927936) (hc : c < 256) : bits .or .u64 ((v : Int) * 256) (c : Int) = ((256 * v + c : Nat) : Int) := by
  have e : ((v : Int) * 256) = ((256 * v : Nat) : Int) := by omega
  rw [e, u64_or_nat _ _ (by omega) (by omega)]
  congr 1
  have := Nat.two_pow_add_eq_or_of_lt (i := 8) hc v
  rw [show 2 ^ 8 = 256 from rfl] at this
  omega
theorem pow_le (k : Nat) (h : k ≤ 7) : 256 ^ k ≤ 72057594037927936 := by
  have := Nat.pow_le_pow_right (n := 256) (by omega) h
  simpa using this
set_option maxHeartbeats 400000 in
theorem number_any (s : ByteArray) (w : World) (hs : s.size ≤ 8) :
    Calls Try.prog 79 #[.string s] w fun e w' => e = .returned (.int .u64 (ofL s.data.toList : Nat)) ∧ w = w' := by
  go_enter Try.func79, Try.ntmps79
  go_wp2
  go_loop [3, 7] (fun t i => ∃ k v : Nat, k ≤ s.size ∧ Hid (v = ofL (s.data.toList.take k)) ∧ i = .int .i64 k ∧ t = .int .u64 (v : Int)) (fun _ i => s.size - (intOf i).toNat)
  case atStart => exact ⟨0, 0, by omega, Lib.hid rfl, rfl, rfl⟩
  case round =>
    obtain ⟨k, v, hk, HV, rfl, rfl⟩ := hrel
    by_cases hlt : k < s.size
    · have hv : v < 72057594037927936 := by
        have h1 := ofL_lt (s.data.toList.take k)
        have h2 := pow_le k (by omega)
        have h3 : (s.data.toList.take k).length = k := by simp; omega
        rw [h3] at h1
        rw [HV.out]; omega
      have hts := Lib.hid (take_snoc8 s k hlt)
      have hcl : s[k].toNat < 256 := s[k].toNat_lt
      have hor := Lib.hid (or_byte v s[k].toNat hv hcl)
      go_wp2
      go_round
      case rel => exact ⟨k + 1, 256 * v + s[k].toNat, by omega, Lib.hid (by rw [hts.out, ofL_snoc, ← HV.out]), by go_num, by rw [hor.out]⟩
      case measure => simp [intOf]; omega
    · have ht := Lib.hid (List.take_of_length_le (l := s.data.toList) (i := k) (by simp; omega))
      go_wp2
      go_ret
      exact ⟨ret_int (by rw [HV.out, ht.out]), rfl⟩
end Go.Proofs.Ytnjpijihjifkfaa
