/- Telegrams: the plain mathematics; a slice of numbers, opened. -/
import Derived.Test.YtgbnmokajaehhaaDoorNM
import Derived.Test.YtgbnmokajaehhaaDoorNN
import Derived.Test.YtgbnmokajaehhaaDoorXO7
import Derived.Deep.SlicePairs
namespace Go.Proofs.YtgbnmokajaehhaaDoor
open Go.ChangeShapes Go.WideShapes Go.ChangeAt Go.RowKit Go.Joins Go.Deep
set_option linter.unusedVariables false
set_option maxRecDepth 100000
/-- A slice that reads as these numbers. -/
def Nums (w : World) (a : Option Addr) (n : Nat) (ns : List Nat) : Prop :=
  ns.length = n ∧ (∀ x ∈ ns, x < 18446744073709551616) ∧ (n = 0 ∨ ∃ b off, a = some ⟨b, off, none⟩ ∧ ∀ j, j < n → w.cell? ⟨b, off + j, none⟩ = some (.int .u64 (ns.getD j 0 : Nat)))
section
variable {H : Type} {enc : TypeId × Value → H} {w : World} {base : Nat} {spare : Nat → Bool} {held : Bool} {r : Reach} {b0 : Nat}
theorem openNums {v : Value} {d : DataW H} {p : List MemPlace} (hv : Value.okWide Tryd.prog w r b0 44 v) (h : DataW.Trod enc Tryd.prog w base spare held 44 v d p) :
    ∃ (a : Option Addr) (len cap : Nat) (ns : List Nat), len ≤ 9223372036854775807 ∧ Nums w a len ns ∧ v = .slice a len cap := by
  obtain ⟨a0, len0, cap0, rfl⟩ := okWide_slice Tryd.underlying44 hv
  obtain ⟨fuel, hf⟩ := h
  rcases open_ints Tryd.underlying44 Tryd.underlying34 (by kernel_rfl) hf with ⟨hcs, _⟩ | ⟨x, l, c, zs, hcs, _, hl, hm, hz, _, hcell, hwz⟩
  · simp [Value.cells] at hcs
    obtain ⟨rfl, rfl, rfl⟩ := hcs
    exact ⟨none, 0, 0, [], by omega, ⟨rfl, by simp, .inl rfl⟩, rfl⟩
  · simp [Value.cells] at hcs
    obtain ⟨rfl, rfl, rfl⟩ := hcs
    have hlz : len0 ≤ zs.length := by rw [hz]; split <;> omega
    unfold maxLen at hm
    have hb : ∀ z ∈ zs, 0 ≤ z ∧ z < 18446744073709551616 := fun z hz => by have := bounds_u64 (hwz z hz); omega
    refine ⟨some x, len0, cap0, (zs.take len0).map Int.toNat, by omega, ⟨by simp; omega, ?_, ?_⟩, rfl⟩
    · intro y hy
      obtain ⟨z, hz, rfl⟩ := List.mem_map.1 hy
      have := hb z (List.mem_of_mem_take hz)
      omega
    · by_cases h0 : len0 = 0
      · exact .inl h0
      · right
        obtain ⟨b, off, spot⟩ := x
        have hs : spot = none := by simpa [Addr.add] using World.cell?_spot (hcell 0 (by omega))
        subst hs
        refine ⟨b, off, rfl, fun j hj => ?_⟩
        have := hcell j (by omega)
        rw [add_none] at this
        rw [this]
        have hj' : j < zs.length := by omega
        have e : zs.getD j 0 = zs[j] := by simp [hj']
        have hz0 := hb zs[j] (List.getElem_mem hj')
        rw [e]
        simp [hj, hj']
        omega
end
theorem Nums.below {w w1 : World} {a : Option Addr} {n : Nat} {ns : List Nat} (h : Nums w a n ns) (B : Below w.heap.size w w1) : Nums w1 a n ns := by
  refine ⟨h.1, h.2.1, ?_⟩
  rcases h.2.2 with h0 | ⟨b, off, ha, hc⟩
  · exact .inl h0
  · exact .inr ⟨b, off, ha, fun j hj => (B.cell (p := ⟨b, off + j, none⟩) (World.block_lt_of_cell? w _ (hc j hj))).trans (hc j hj)⟩
theorem Nums.at {w : World} {a : Option Addr} {n : Nat} {ns : List Nat} (h : Nums w a n ns) {k : Nat} (hk : k < n) : ∃ b off x, a = some ⟨b, off, none⟩ ∧ w.cell? ⟨b, off + k, none⟩ = some (.int .u64 (x : Nat)) ∧ ns.getD k 0 = x ∧ x < 18446744073709551616 := by
  rcases h.2.2 with h0 | ⟨b, off, ha, hc⟩
  · omega
  · have hk' : k < ns.length := by rw [h.1]; exact hk
    exact ⟨b, off, _, ha, hc k hk, rfl, h.2.1 _ (by rw [show ns.getD k 0 = ns[k] by simp [hk']]; exact List.getElem_mem hk')⟩
theorem Strs.at {w : World} {a : Option Addr} {n : Nat} {ps : List ByteArray} (h : Strs w a n ps) {k : Nat} (hk : k < n) : ∃ b off, a = some ⟨b, off, none⟩ ∧ w.cell? ⟨b, off + k, none⟩ = some (.string (ps.getD k ByteArray.empty)) := by
  rcases h.2 with h0 | ⟨b, off, ha, _, hc⟩
  · omega
  · exact ⟨b, off, ha, hc k hk⟩
/-- A slice of strings at block g, beside a reader. -/
def At (w : World) (g : Nat) (ps : List ByteArray) : Prop := g < w.heap.size ∧ ∀ j, j < ps.length → w.cell? ⟨g, j, none⟩ = some (.string (ps.getD j ByteArray.empty))
theorem At.only {w w1 : World} {g b : Nat} {ps : List ByteArray} (h : At w g ps) (B : Oc.Only b w w1) (hb : g ≠ b) : At w1 g ps :=
  ⟨Nat.lt_of_lt_of_le h.1 B.size, fun j hj => (B.cell h.1 hb).trans (h.2 j hj)⟩
theorem At.below {w w1 : World} {g : Nat} {ps : List ByteArray} (h : At w g ps) (B : Below w.heap.size w w1) : At w1 g ps :=
  ⟨Nat.lt_of_lt_of_le h.1 B.size, fun j hj => (B.cell (p := ⟨g, j, none⟩) h.1).trans (h.2 j hj)⟩
/-- Texts and numbers, one behind the other. -/
def eT (p : ByteArray) : List UInt8 := Oc.numL 2 p.size ++ p.data.toList
def teL (ps : List ByteArray) (ns : List Nat) : List UInt8 := (ps.map eT).flatten ++ (ns.map (Oc.numL 8)).flatten
theorem teL_snocT (ps : List ByteArray) (p : ByteArray) : teL (ps ++ [p]) [] = teL ps [] ++ eT p := by simp [teL]
theorem teL_snocN (ps : List ByteArray) (ns : List Nat) (n : Nat) : teL ps (ns ++ [n]) = teL ps ns ++ Oc.numL 8 n := by simp [teL]
theorem teL_consT (p : ByteArray) (ps : List ByteArray) (ns : List Nat) : teL (p :: ps) ns = eT p ++ teL ps ns := by simp [teL]
theorem teL_consN (n : Nat) (ns : List Nat) : teL [] (n :: ns) = Oc.numL 8 n ++ teL [] ns := by simp [teL]
theorem eT_len (p : ByteArray) : (eT p).length = 2 + p.size := by unfold eT; rw [List.length_append, Oc.numL_length, ← blen]
/-- The words of texts and numbers. -/
def wdT (p : ByteArray) : ByteArray := bs (wordS p.data.toList)
def wdN (n : Nat) : ByteArray := bs (Lib.decDigits n)
def wds (ps : List ByteArray) (ns : List Nat) : List ByteArray := ps.map wdT ++ ns.map wdN
theorem wds_snocT (ps : List ByteArray) (p : ByteArray) : wds (ps ++ [p]) [] = wds ps [] ++ [wdT p] := by simp [wds]
theorem wds_snocN (ps : List ByteArray) (ns : List Nat) (n : Nat) : wds ps (ns ++ [n]) = wds ps ns ++ [wdN n] := by simp [wds]
theorem wds_len (ps : List ByteArray) (ns : List Nat) : (wds ps ns).length = ps.length + ns.length := by simp [wds]
theorem wds_atT (ps : List ByteArray) (ns : List Nat) (i : Nat) (h : i < ps.length) : (wds ps ns).getD i ByteArray.empty = wdT (ps.getD i ByteArray.empty) := by
  unfold wds
  rw [List.getD_eq_getElem?_getD, List.getElem?_append_left (by simpa using h), List.getElem?_map, List.getElem?_eq_getElem h]
  simp [h]
theorem wds_atN (ps : List ByteArray) (ns : List Nat) (i : Nat) (h : i < ns.length) : (wds ps ns).getD (ps.length + i) ByteArray.empty = wdN (ns.getD i 0) := by
  unfold wds
  rw [List.getD_eq_getElem?_getD, List.getElem?_append_right (by simp), List.getElem?_map, List.length_map, show ps.length + i - ps.length = i by omega, List.getElem?_eq_getElem h]
  simp [h]
theorem wdN_clean (n : Nat) : (32 : UInt8) ∉ (wdN n).data.toList := by
  unfold wdN
  rw [bs_toList]
  intro h
  rw [Lib.decDigits_eq] at h
  obtain ⟨t, _, ht⟩ := List.mem_map.1 h
  have := congrArg UInt8.toNat ht
  unfold Lib.dg at this
  rw [UInt8.toNat_ofNat'] at this
  have h2 : n / 10 ^ (Lib.nDigits n - 1 - t) % 10 < 10 := Nat.mod_lt _ (by omega)
  rw [Nat.mod_eq_of_lt (by omega)] at this
  have h3 : (32 : UInt8).toNat = 32 := rfl
  omega
theorem wds_clean (ps : List ByteArray) (ns : List Nat) : ∀ y ∈ wds ps ns, (32 : UInt8) ∉ y.data.toList := by
  intro y hy
  unfold wds at hy
  rcases List.mem_append.1 hy with hy | hy
  · obtain ⟨p, _, rfl⟩ := List.mem_map.1 hy
    unfold wdT
    rw [bs_toList]
    intro h
    exact (wordS_clean p.data.toList 32 h).1 rfl
  · obtain ⟨n, _, rfl⟩ := List.mem_map.1 hy
    exact wdN_clean n
theorem wds_sum (ps : List ByteArray) (ns : List Nat) (h1 : ∀ p ∈ ps, p.size ≤ 500) (h2 : ∀ n ∈ ns, n < 18446744073709551616) : ((wds ps ns).map (·.data.toList.length)).sum + (wds ps ns).length ≤ 1502 * (ps.length + ns.length) := by
  have key : ∀ l : List ByteArray, (∀ x ∈ l, x.data.toList.length ≤ 1501) → (l.map (·.data.toList.length)).sum + l.length ≤ 1502 * l.length := by
    intro l
    induction l with
    | nil => intro _; simp
    | cons a l ih =>
      intro h
      have := ih (fun x hx => h x (List.mem_cons_of_mem _ hx))
      have := h a (List.mem_cons_self ..)
      simp only [List.map_cons, List.sum_cons, List.length_cons]; omega
  have := key (wds ps ns) (by
    intro x hx
    unfold wds at hx
    rcases List.mem_append.1 hx with hx | hx
    · obtain ⟨p, hp, rfl⟩ := List.mem_map.1 hx
      unfold wdT
      rw [bs_toList]
      have h3 := wordS_le p.data.toList
      have h4 := h1 p hp
      rw [← blen] at h3; omega
    · obtain ⟨n, hn, rfl⟩ := List.mem_map.1 hx
      unfold wdN
      rw [bs_toList]
      have := nDigits_le n (h2 n hn)
      omega)
  rw [wds_len] at this ⊢; exact this
theorem oc_ext0 (q : ByteArray) (L R : List UInt8) (h : q.data.toList = L ++ R) : Oc.rawS q 0 (L.length : Nat) = (bs R, 0, bs L) := by
  rw [Oc.rawS_ok (by rw [blen, h]; simp)]
  have e1 : q.extract L.length q.size = bs R := by
    apply ByteArray.ext; apply Array.toList_inj.1
    rw [ByteArray.data_extract, bs_toList, Array.toList_extract, h]; simp [blen, h, List.extract]
  have e2 : q.extract 0 L.length = bs L := by
    apply ByteArray.ext; apply Array.toList_inj.1
    rw [ByteArray.data_extract, bs_toList, Array.toList_extract, h]; simp [List.extract]
  rw [e1, e2]
theorem oc_raw (q : ByteArray) (L R : List UInt8) (n : Nat) (h : q.data.toList = L ++ R) (hn : L.length = n) : Oc.rawS q 0 n = (bs R, 0, bs L) := by subst hn; exact oc_ext0 q L R h
theorem oc_num (q : ByteArray) (w n : Nat) (R : List UInt8) (h : q.data.toList = Oc.numL w n ++ R) (h1 : 1 ≤ w) (h2 : w ≤ 8) : Oc.numS q 0 w = (bs R, 0, n % 256 ^ w) := by
  rw [Oc.numS_good (by omega) (by omega), oc_raw q _ R w h (Oc.numL_length w n)]
  simp only
  rw [bs_toList, Oc.ofL_num]
theorem oc_text (q p : ByteArray) (R : List UInt8) (h : q.data.toList = eT p ++ R) (hp : p.size ≤ 500) : Oc.textS q 0 500 = (bs R, 0, p) := by
  have h2 : Oc.numS q 0 2 = _ := oc_num q 2 p.size (p.data.toList ++ R) (by rw [h]; simp [eT]) (by omega) (by omega)
  unfold Oc.textS
  rw [h2]
  simp only
  rw [show p.size % 256 ^ 2 = p.size from Nat.mod_eq_of_lt (by omega), if_neg (by simp), if_neg (by omega)]
  rw [oc_raw (bs (p.data.toList ++ R)) p.data.toList R p.size (by rw [bs_toList]) (by rw [← blen]), show bs p.data.toList = p from Oc.bs_of p]
theorem oc_eight (q : ByteArray) (n : Nat) (R : List UInt8) (h : q.data.toList = Oc.numL 8 n ++ R) : Oc.rawS q 0 8 = (bs R, 0, bs (Oc.numL 8 n)) := oc_raw q _ R 8 h (Oc.numL_length 8 n)
theorem take_snoc_str (ps : List ByteArray) (k : Nat) (h : k < ps.length) : ps.take (k + 1) = ps.take k ++ [ps.getD k ByteArray.empty] := by
  rw [List.take_succ_eq_append_getElem h]; simp [h]
theorem drop_cons_str (ps : List ByteArray) (k : Nat) (h : k < ps.length) : ps.drop k = ps.getD k ByteArray.empty :: ps.drop (k + 1) := by
  rw [List.drop_eq_getElem_cons h]; simp [h]
theorem take_snoc_num (ps : List Nat) (k : Nat) (h : k < ps.length) : ps.take (k + 1) = ps.take k ++ [ps.getD k 0] := by
  rw [List.take_succ_eq_append_getElem h]; simp [h]
theorem drop_cons_num (ps : List Nat) (k : Nat) (h : k < ps.length) : ps.drop k = ps.getD k 0 :: ps.drop (k + 1) := by
  rw [List.drop_eq_getElem_cons h]; simp [h]
theorem mem_getD_str (ps : List ByteArray) (k : Nat) (h : k < ps.length) : ps.getD k ByteArray.empty ∈ ps := by
  rw [show ps.getD k ByteArray.empty = ps[k] by simp [h]]; exact List.getElem_mem h
end Go.Proofs.YtgbnmokajaehhaaDoor
