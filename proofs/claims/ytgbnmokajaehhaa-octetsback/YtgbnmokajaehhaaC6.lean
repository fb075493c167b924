/- A change within four bytes is found. -/
import Derived.Test.YtgbnmokajaehhaaC5
import Derived.Laws.IdiomStrings
import Derived.RegionTactic
import Derived.BigRegion
import Derived.Deep.QuietTactic
import Derived.BigQuiet
import Derived.IntWalk
namespace Go.Proofs.Ytgbnmokajaehhaa
open Go.RowKit
/-- Block b holds the bytes l, and they may be written. -/
def BRow (w : World) (b : Nat) (l : List UInt8) : Prop := ∀ j (hj : j < l.length), w.cell? ⟨b, j, none⟩ = some (.int .u8 (l[j].toNat : Int)) ∧ w.frozen? ⟨b, j, none⟩ = false
theorem BRow.new (w : World) (s : ByteArray) (cap : Nat) (e : TypeId) : BRow (w.drew.alloc (.cells (bytesRow s cap) e ((bytesRow s cap).size, (bytesRow s cap).size + 1))) w.heap.size s.data.toList := by
  intro j hj
  have hj' : j < s.data.size := by simpa using hj
  have hsz : j < (bytesRow s cap).size := by
    have : (bytesRow s cap).size = s.data.size + (cap - s.size) := by simp [bytesRow]
    omega
  have hg : (w.drew.alloc (.cells (bytesRow s cap) e ((bytesRow s cap).size, (bytesRow s cap).size + 1))).heap[w.heap.size]? = some (.cells (bytesRow s cap) e ((bytesRow s cap).size, (bytesRow s cap).size + 1)) := by
    show (w.heap.push _)[w.heap.size]? = _
    simp
  constructor
  · rw [cell_of_row _ _ j _ _ _ hg]
    unfold bytesRow
    rw [Array.getElem?_append_left (by simpa using hj')]
    rw [Array.getElem?_map, Array.getElem?_eq_getElem hj']
    rfl
  · unfold World.frozen?
    simp only [hg]
    simp
    omega
theorem BRow.set {w : World} {b : Nat} {l : List UInt8} (h : BRow w b l) (i : Nat) (c : UInt8) : BRow (w.setCell ⟨b, i, none⟩ (.int .u8 (c.toNat : Int))) b (l.set i c) := by
  intro j hj
  have hj' : j < l.length := by simpa using hj
  obtain ⟨h1, h2⟩ := h j hj'
  constructor
  · by_cases hij : i = j
    · subst hij
      rw [List.getElem_set_self]
      exact World.cell?_setCell_same _ _ _ h1
    · rw [List.getElem_set_ne hij, World.cell?_setCell_other _ _ _ _ (fun e => hij (by injection e))]
      exact h1
  · rw [World.frozen?_setCell]; exact h2
theorem BRow.drew {w : World} {b : Nat} {l : List UInt8} (h : BRow w b l) : BRow w.drew b l := h
theorem BRow.drewN {w : World} {b : Nat} {l : List UInt8} (h : BRow w b l) (n : Nat) : BRow (w.drewN n) b l := h
/-- Bytes from a place on, changed one by one by a number's bytes. -/
def chg (l : List UInt8) (A y : Nat) : Nat → List UInt8
  | 0 => l
  | k + 1 => (chg l A y k).set (A + k) ((chg l A y k).getD (A + k) 0 ^^^ UInt8.ofNat (y / 2 ^ (8 * k) % 256))
theorem chg_length (l : List UInt8) (A y k : Nat) : (chg l A y k).length = l.length := by
  induction k with
  | zero => rfl
  | succ k ih => simp [chg, ih]
theorem chg_four (l : List UInt8) (A y : Nat) (h : A + 4 ≤ l.length) (hy : y < 4294967296) : (sumN (chg l A y 4) == sumN l) = (y == 0) := by
  obtain ⟨p, m, q, hl, hp, hm⟩ : ∃ p m q, l = p ++ (m ++ q) ∧ p.length = A ∧ m.length = 4 := ⟨l.take A, (l.drop A).take 4, (l.drop A).drop 4, by rw [List.take_append_drop, List.take_append_drop], by simp; omega, by simp; omega⟩
  subst hl
  obtain ⟨c0, c1, c2, c3, rfl⟩ : ∃ c0 c1 c2 c3, m = [c0, c1, c2, c3] := by
    match m, hm with
    | [a, b, c, d], _ => exact ⟨a, b, c, d, rfl⟩
  have e : chg (p ++ ([c0, c1, c2, c3] ++ q)) A y 4 = p ++ (xb [c0, c1, c2, c3] y ++ q) := by
    subst hp
    simp [chg, xb, Nat.div_div_eq_div_mul]
  rw [e, Bool.eq_iff_iff]
  simp only [beq_iff_eq]
  exact found p _ q y (by simpa using hy) rfl
theorem xor_u8 (c : UInt8) (v : Nat) (hv : v < 256) : bits .xor .u8 (c.toNat : Int) (v : Int) = ((c ^^^ UInt8.ofNat v).toNat : Int) := by
  rw [xor8 _ _ c.toNat_lt hv, UInt8.toNat_xor]
  simp
  rw [Nat.mod_eq_of_lt hv]
set_option maxHeartbeats 1000000 in
set_option maxRecDepth 100000 in
theorem crcFound_walk (s : ByteArray) (at' : Int) (y : Nat) (hs : s.size ≤ maxLen) (hy : y < 4294967296) (w : World) :
    Calls Try.prog 10 #[.string s, .int .i64 at', .int .u32 (y : Int)] w fun e w' => e = .returned (.bool true) ∧ Below w.heap.size w w' := by
  by_cases h1 : s.size ≤ 4096
  · by_cases h2 : at' < 0
    · go_enter Try.func10, Try.ntmps10
      go_wp2_with (go_at_call 39; refine (lives4 _).mono ?_; rintro e w1 ⟨rfl, B1⟩)
      go_ret
      exact ⟨rfl, B1⟩
    · obtain ⟨A, rfl⟩ := Int.eq_ofNat_of_zero_le (show 0 ≤ at' by omega)
      by_cases h3 : A + 4 ≤ s.size
      · have h3' : ¬ (s.size : Int) - 4 < (A : Int) := by omega
        go_enter Try.func10, Try.ntmps10
        go_wp2_with (go_at_call 39; refine (lives4 _).mono ?_; rintro e w1 ⟨rfl, B1⟩; have kc := run_bytes_of_string (P := Try.prog) w1 9 66 5 s Try.underlying9 Try.underlying66 Try.underlying5)
        go_loopw [27] (fun i wx => ∃ (k : Nat) (l : List UInt8), k ≤ 4 ∧ Hid (l = chg s.data.toList A y k) ∧ BRow wx w1.heap.size l ∧ Below w.heap.size w wx ∧ w1.heap.size < wx.heap.size ∧ i = .int .i64 (k : Int)) (fun i _ => 4 - (intOf i).toNat)
        case atStart => exact ⟨0, _, by omega, Lib.hid rfl, BRow.new w1 s _ 5, (B1.alloc B1.size _).drew, by simp, rfl⟩
        case round =>
          obtain ⟨k, l, hk, HL, HB, HW, hsz, rfl⟩ := hrel
          by_cases hlt : k < 4
          · have hll : l.length = s.size := by rw [HL.out, chg_length]; simp
            have hin : A + k < l.length := by omega
            obtain ⟨c, hc⟩ : ∃ c : UInt8, l[A + k] = c := ⟨_, rfl⟩
            obtain ⟨hcell, hfz⟩ := HB (A + k) hin
            rw [hc] at hcell
            have HC := Lib.hid hc
            have HLL := Lib.hid hll
            clear hc hll
            go_wp2
            have w1' : IntKind.i64.wrap ((A : Int) + (k : Int)) = (A : Int) + (k : Int) := IntWalk.i64_in _ (by omega)
            have w2' : IntKind.i64.wrap (8 * (k : Int)) = 8 * (k : Int) := IntWalk.i64_in _ (by omega)
            have hv := Lib.hid (xor_u8 c (y / 2 ^ (8 * k) % 256) (by omega))
            go_region
            go_wp2
            go_roundw
            case rel =>
              refine ⟨k + 1, l.set (A + k) (c ^^^ UInt8.ofNat (y / 2 ^ (8 * k) % 256)), by omega, Lib.hid ?_, ?_, ?_, ?_, by go_num⟩
              · show _ = (chg _ A y k).set _ _
                rw [← HL.out, ← HC.out, List.getD_eq_getElem?_getD, List.getElem?_eq_getElem hin]; rfl
              · have := (HB.set (A + k) (c ^^^ UInt8.ofNat (y / 2 ^ (8 * k) % 256))).drew
                rw [← hv.out] at this
                simpa using this
              · exact (HW.setCell (p := ⟨w1.heap.size, A + k, none⟩) B1.size _).drew
              · simpa using hsz
            case measure => simp [intOf]; omega
          · obtain rfl : k = 4 := by omega
            have hll : l.length = s.size := by rw [HL.out, chg_length]; simp
            have kb : (convert 66 9 (.slice (some ⟨w1.heap.size, 0, none⟩) s.size (grownCap w1 s.size 0 5))).run Try.prog wr = .ok (.string ⟨l.toArray⟩) wr := by
              have := run_convert_bytes_back (P := Try.prog) wr 66 9 5 ⟨w1.heap.size, 0, none⟩ (grownCap w1 s.size 0 5) l Try.underlying66 Try.underlying5 Try.underlying9 (fun j hj => by
                have hadd : (⟨w1.heap.size, 0, none⟩ : Addr).add j = ⟨w1.heap.size, j, none⟩ := by unfold Addr.add; split <;> simp_all
                rw [hadd]; exact (HB j hj).1)
              rwa [hll] at this
            have hl1 : (⟨l.toArray⟩ : ByteArray).size ≤ maxLen := by
              have : (⟨l.toArray⟩ : ByteArray).size = l.length := by simp [ByteArray.size]
              rw [this, hll]; exact hs
            obtain ⟨u, hu⟩ : ∃ u, sumN (⟨l.toArray⟩ : ByteArray).data.toList = u := ⟨_, rfl⟩
            obtain ⟨v, hv⟩ : ∃ u, sumN s.data.toList = u := ⟨_, rfl⟩
            have hend : (((u : Int) == (v : Int)) == ((y : Int) == 0)) = true := by
              have h := chg_four s.data.toList A y (by simpa using h3) hy
              rw [← HL.out] at h
              have hu' : sumN l = u := by simpa using hu
              rw [hu', hv] at h
              have e1 : ((u : Int) == (v : Int)) = (u == v) := by rw [Bool.eq_iff_iff]; simp; omega
              have e2 : ((y : Int) == 0) = (y == 0) := by rw [Bool.eq_iff_iff]; simp
              rw [e1, e2, h]; simp
            have HU := Lib.hid hu
            have HV := Lib.hid hv
            have HLL := Lib.hid hll
            have HE := Lib.hid hend
            clear hu hv hll hend kc
            go_wp2_with fail
            refine (sum_lit _ u HU.out hl1 _).mono ?_
            rintro e w2 ⟨rfl, hb1⟩
            have B2 := below_to HW hb1
            clear hb1
            go_wp2_with fail
            refine (sum_lit _ v HV.out hs _).mono ?_
            rintro e w3 ⟨rfl, hb1⟩
            have B3 := below_to B2 hb1
            clear hb1
            go_wp2_with fail
            go_ret
            exact ⟨ret_bool (by have := HE.out; simpa using this), B3⟩
      · have h3' : (s.size : Int) - 4 < (A : Int) := by omega
        go_enter Try.func10, Try.ntmps10
        go_wp2_with (go_at_call 39; refine (lives4 _).mono ?_; rintro e w1 ⟨rfl, B1⟩)
        go_ret
        exact ⟨rfl, B1⟩
  · go_enter Try.func10, Try.ntmps10
    go_wp2_with (go_at_call 39; refine (lives4 _).mono ?_; rintro e w1 ⟨rfl, B1⟩)
    go_ret
    exact ⟨rfl, B1⟩
end Go.Proofs.Ytgbnmokajaehhaa
