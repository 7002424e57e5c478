/- Layer 9 (calendar): Parse of the program and of the reference agree on every text. (by gen_vm.py) -/
import Derived.Test.YtgnfaemnehmgcaaGreatDoorQ38
import Derived.Test.YtgnfaemnehmgcaaGreatDoorQ41
namespace Go.Proofs.YtgnfaemnehmgcaaGreatDoor.Cal
open Go Go.RowKit
theorem list19 (l : List UInt8) (h : l.length = 19) : l = (List.range 19).map (fun j => l[j]?.getD 0) := by
  apply List.ext_getElem (by simp [h])
  intro i h1 h2
  simp [h1]
theorem bOf_ext (S : ByteArray) (a b j : Nat) (_hb : b ≤ S.size) (h : a + j < b) : bOf (S.extract a b) j = bOf S (a + j) := by
  unfold bOf
  rw [Lib.extract_data, List.getElem?_take_of_lt (by omega), List.getElem?_drop]
theorem digB_ext (S : ByteArray) (a b j : Nat) (hb : b ≤ S.size) (h : a + j < b) : digB (S.extract a b) j ↔ digB S (a + j) := by
  unfold digB
  rw [bOf_ext S a b j hb h]
theorem dig_of {c : UInt8} {x : Nat} (h : 48 ≤ c.toNat) (hx : c.toNat - 48 = x) : c = UInt8.ofNat (48 + x) := by
  rw [← hx, show 48 + (c.toNat - 48) = c.toNat by omega, UInt8.ofNat_toNat]
theorem sep_of {c : UInt8} {v : Nat} (h : c.toNat = v) : c = UInt8.ofNat v := by
  rw [← h, UInt8.ofNat_toNat]
theorem fit_dig {S : ByteArray} {j : Nat} (hp : (patL[j]?.getD 0 : UInt8).toNat = 48) (h : FitAt S j) : digB S j := by
  unfold FitAt at h
  rw [hp] at h
  rcases h with ⟨_, h1, h2⟩ | ⟨h1, _⟩
  · unfold digB bOf
    omega
  · exact absurd rfl h1
theorem fit_sep {S : ByteArray} {j v : Nat} (hp : (patL[j]?.getD 0 : UInt8).toNat = v) (hv : v ≠ 48) (h : FitAt S j) : bOf S j = v := by
  unfold FitAt at h
  rw [hp] at h
  rcases h with ⟨h1, _⟩ | ⟨_, h2⟩
  · omega
  · unfold bOf
    omega
theorem dig_fits {S : ByteArray} {j : Nat} (hp : (patL[j]?.getD 0 : UInt8).toNat = 48) (h : digB S j) : FitAt S j := by
  unfold FitAt
  rw [hp]
  unfold digB bOf at h
  exact .inl ⟨rfl, by omega, by omega⟩
theorem sep_fits {S : ByteArray} {j v : Nat} (hp : (patL[j]?.getD 0 : UInt8).toNat = v) (hv : v ≠ 48) (h : bOf S j = v) : FitAt S j := by
  unfold FitAt
  rw [hp]
  unfold bOf at h
  exact .inr ⟨by omega, by omega⟩
theorem first_fit (S : ByteArray) : ∀ n, (∀ i, i < n → FitAt S i) ∨ ∃ m, m < n ∧ (∀ i, i < m → FitAt S i) ∧ ¬ FitAt S m
  | 0 => .inl fun i hi => absurd hi (Nat.not_lt_zero i)
  | n + 1 => by
    rcases first_fit S n with h | ⟨m, hm, h1, h2⟩
    · by_cases e : FitAt S n
      · exact .inl fun i hi => if e2 : i = n then e2 ▸ e else h i (by omega)
      · exact .inr ⟨n, by omega, h, e⟩
    · exact .inr ⟨m, by omega, h1, h2⟩
theorem neg_of {S : ByteArray} {a b : Nat} {v : Int} (hT : NumIs (S.extract a b) v) (hb : b ≤ S.size) {j : Nat} (h : a ≤ j ∧ j < b) (hno : ¬ digB S j) : v < 0 := by
  rcases hT with ⟨h1, _⟩ | ⟨_, h2⟩
  · refine absurd ?_ hno
    have := (digB_ext S a b (j - a) hb (by omega)).1 (h1 (j - a) (by rw [ByteArray.size_extract]; omega))
    rwa [show a + (j - a) = j by omega] at this
  · omega
theorem fits_all (S : ByteArray) (hz : S.size = 19) (hf : ∀ j, j < 19 → FitAt S j) :
    ∃ y k d h m s : Nat, y < 10000 ∧ k < 100 ∧ d < 100 ∧ h < 100 ∧ m < 100 ∧ s < 100 ∧ S.data.toList = fmtL y k d h m s ∧
      (y : Int) = numF (S.extract 0 4) 4 ∧ (∀ i, i < 4 → digB (S.extract 0 4) i) ∧ (k : Int) = numF (S.extract 5 7) 2 ∧ (∀ i, i < 2 → digB (S.extract 5 7) i) ∧ (d : Int) = numF (S.extract 8 10) 2 ∧ (∀ i, i < 2 → digB (S.extract 8 10) i) ∧ (h : Int) = numF (S.extract 11 13) 2 ∧ (∀ i, i < 2 → digB (S.extract 11 13) i) ∧ (m : Int) = numF (S.extract 14 16) 2 ∧ (∀ i, i < 2 → digB (S.extract 14 16) i) ∧ (s : Int) = numF (S.extract 17 19) 2 ∧ (∀ i, i < 2 → digB (S.extract 17 19) i) := by
  have hL : S.data.toList.length = 19 := by simpa using hz
  have hG := list19 _ hL
  have b0 := fit_dig (S := S) (j := 0) rfl (hf 0 (by decide))
  have B0 := b0.1
  have C0 := b0.2
  have b1 := fit_dig (S := S) (j := 1) rfl (hf 1 (by decide))
  have B1 := b1.1
  have C1 := b1.2
  have b2 := fit_dig (S := S) (j := 2) rfl (hf 2 (by decide))
  have B2 := b2.1
  have C2 := b2.2
  have b3 := fit_dig (S := S) (j := 3) rfl (hf 3 (by decide))
  have B3 := b3.1
  have C3 := b3.2
  have s4 := fit_sep (S := S) (j := 4) (v := 45) rfl (by decide) (hf 4 (by decide))
  have b5 := fit_dig (S := S) (j := 5) rfl (hf 5 (by decide))
  have B5 := b5.1
  have C5 := b5.2
  have b6 := fit_dig (S := S) (j := 6) rfl (hf 6 (by decide))
  have B6 := b6.1
  have C6 := b6.2
  have s7 := fit_sep (S := S) (j := 7) (v := 45) rfl (by decide) (hf 7 (by decide))
  have b8 := fit_dig (S := S) (j := 8) rfl (hf 8 (by decide))
  have B8 := b8.1
  have C8 := b8.2
  have b9 := fit_dig (S := S) (j := 9) rfl (hf 9 (by decide))
  have B9 := b9.1
  have C9 := b9.2
  have s10 := fit_sep (S := S) (j := 10) (v := 32) rfl (by decide) (hf 10 (by decide))
  have b11 := fit_dig (S := S) (j := 11) rfl (hf 11 (by decide))
  have B11 := b11.1
  have C11 := b11.2
  have b12 := fit_dig (S := S) (j := 12) rfl (hf 12 (by decide))
  have B12 := b12.1
  have C12 := b12.2
  have s13 := fit_sep (S := S) (j := 13) (v := 58) rfl (by decide) (hf 13 (by decide))
  have b14 := fit_dig (S := S) (j := 14) rfl (hf 14 (by decide))
  have B14 := b14.1
  have C14 := b14.2
  have b15 := fit_dig (S := S) (j := 15) rfl (hf 15 (by decide))
  have B15 := b15.1
  have C15 := b15.2
  have s16 := fit_sep (S := S) (j := 16) (v := 58) rfl (by decide) (hf 16 (by decide))
  have b17 := fit_dig (S := S) (j := 17) rfl (hf 17 (by decide))
  have B17 := b17.1
  have C17 := b17.2
  have b18 := fit_dig (S := S) (j := 18) rfl (hf 18 (by decide))
  have B18 := b18.1
  have C18 := b18.2
  obtain ⟨g0, hg0⟩ : ∃ g, S.data.toList[0]?.getD 0 = g := ⟨_, rfl⟩
  have t0 : bOf S 0 = g0.toNat := by unfold bOf; rw [hg0]
  obtain ⟨g1, hg1⟩ : ∃ g, S.data.toList[1]?.getD 0 = g := ⟨_, rfl⟩
  have t1 : bOf S 1 = g1.toNat := by unfold bOf; rw [hg1]
  obtain ⟨g2, hg2⟩ : ∃ g, S.data.toList[2]?.getD 0 = g := ⟨_, rfl⟩
  have t2 : bOf S 2 = g2.toNat := by unfold bOf; rw [hg2]
  obtain ⟨g3, hg3⟩ : ∃ g, S.data.toList[3]?.getD 0 = g := ⟨_, rfl⟩
  have t3 : bOf S 3 = g3.toNat := by unfold bOf; rw [hg3]
  obtain ⟨g4, hg4⟩ : ∃ g, S.data.toList[4]?.getD 0 = g := ⟨_, rfl⟩
  have t4 : bOf S 4 = g4.toNat := by unfold bOf; rw [hg4]
  obtain ⟨g5, hg5⟩ : ∃ g, S.data.toList[5]?.getD 0 = g := ⟨_, rfl⟩
  have t5 : bOf S 5 = g5.toNat := by unfold bOf; rw [hg5]
  obtain ⟨g6, hg6⟩ : ∃ g, S.data.toList[6]?.getD 0 = g := ⟨_, rfl⟩
  have t6 : bOf S 6 = g6.toNat := by unfold bOf; rw [hg6]
  obtain ⟨g7, hg7⟩ : ∃ g, S.data.toList[7]?.getD 0 = g := ⟨_, rfl⟩
  have t7 : bOf S 7 = g7.toNat := by unfold bOf; rw [hg7]
  obtain ⟨g8, hg8⟩ : ∃ g, S.data.toList[8]?.getD 0 = g := ⟨_, rfl⟩
  have t8 : bOf S 8 = g8.toNat := by unfold bOf; rw [hg8]
  obtain ⟨g9, hg9⟩ : ∃ g, S.data.toList[9]?.getD 0 = g := ⟨_, rfl⟩
  have t9 : bOf S 9 = g9.toNat := by unfold bOf; rw [hg9]
  obtain ⟨g10, hg10⟩ : ∃ g, S.data.toList[10]?.getD 0 = g := ⟨_, rfl⟩
  have t10 : bOf S 10 = g10.toNat := by unfold bOf; rw [hg10]
  obtain ⟨g11, hg11⟩ : ∃ g, S.data.toList[11]?.getD 0 = g := ⟨_, rfl⟩
  have t11 : bOf S 11 = g11.toNat := by unfold bOf; rw [hg11]
  obtain ⟨g12, hg12⟩ : ∃ g, S.data.toList[12]?.getD 0 = g := ⟨_, rfl⟩
  have t12 : bOf S 12 = g12.toNat := by unfold bOf; rw [hg12]
  obtain ⟨g13, hg13⟩ : ∃ g, S.data.toList[13]?.getD 0 = g := ⟨_, rfl⟩
  have t13 : bOf S 13 = g13.toNat := by unfold bOf; rw [hg13]
  obtain ⟨g14, hg14⟩ : ∃ g, S.data.toList[14]?.getD 0 = g := ⟨_, rfl⟩
  have t14 : bOf S 14 = g14.toNat := by unfold bOf; rw [hg14]
  obtain ⟨g15, hg15⟩ : ∃ g, S.data.toList[15]?.getD 0 = g := ⟨_, rfl⟩
  have t15 : bOf S 15 = g15.toNat := by unfold bOf; rw [hg15]
  obtain ⟨g16, hg16⟩ : ∃ g, S.data.toList[16]?.getD 0 = g := ⟨_, rfl⟩
  have t16 : bOf S 16 = g16.toNat := by unfold bOf; rw [hg16]
  obtain ⟨g17, hg17⟩ : ∃ g, S.data.toList[17]?.getD 0 = g := ⟨_, rfl⟩
  have t17 : bOf S 17 = g17.toNat := by unfold bOf; rw [hg17]
  obtain ⟨g18, hg18⟩ : ∃ g, S.data.toList[18]?.getD 0 = g := ⟨_, rfl⟩
  have t18 : bOf S 18 = g18.toNat := by unfold bOf; rw [hg18]
  have hG2 : S.data.toList = [g0, g1, g2, g3, g4, g5, g6, g7, g8, g9, g10, g11, g12, g13, g14, g15, g16, g17, g18] := by
    rw [hG]
    show [S.data.toList[0]?.getD 0, S.data.toList[1]?.getD 0, S.data.toList[2]?.getD 0, S.data.toList[3]?.getD 0, S.data.toList[4]?.getD 0, S.data.toList[5]?.getD 0, S.data.toList[6]?.getD 0, S.data.toList[7]?.getD 0, S.data.toList[8]?.getD 0, S.data.toList[9]?.getD 0, S.data.toList[10]?.getD 0, S.data.toList[11]?.getD 0, S.data.toList[12]?.getD 0, S.data.toList[13]?.getD 0, S.data.toList[14]?.getD 0, S.data.toList[15]?.getD 0, S.data.toList[16]?.getD 0, S.data.toList[17]?.getD 0, S.data.toList[18]?.getD 0] = _
    rw [hg0, hg1, hg2, hg3, hg4, hg5, hg6, hg7, hg8, hg9, hg10, hg11, hg12, hg13, hg14, hg15, hg16, hg17, hg18]
  refine ⟨((((bOf S 0 - 48) * 10 + (bOf S 1 - 48)) * 10 + (bOf S 2 - 48)) * 10 + (bOf S 3 - 48)), ((bOf S 5 - 48) * 10 + (bOf S 6 - 48)), ((bOf S 8 - 48) * 10 + (bOf S 9 - 48)), ((bOf S 11 - 48) * 10 + (bOf S 12 - 48)), ((bOf S 14 - 48) * 10 + (bOf S 15 - 48)), ((bOf S 17 - 48) * 10 + (bOf S 18 - 48)), by omega, by omega, by omega, by omega, by omega, by omega, ?_, ?_, ?_, ?_, ?_, ?_, ?_, ?_, ?_, ?_, ?_, ?_, ?_⟩
  · rw [hG2]
    have e0 : g0 = UInt8.ofNat (48 + ((((bOf S 0 - 48) * 10 + (bOf S 1 - 48)) * 10 + (bOf S 2 - 48)) * 10 + (bOf S 3 - 48)) / 100 / 10) := dig_of (by omega) (by omega)
    have e1 : g1 = UInt8.ofNat (48 + ((((bOf S 0 - 48) * 10 + (bOf S 1 - 48)) * 10 + (bOf S 2 - 48)) * 10 + (bOf S 3 - 48)) / 100 % 10) := dig_of (by omega) (by omega)
    have e2 : g2 = UInt8.ofNat (48 + ((((bOf S 0 - 48) * 10 + (bOf S 1 - 48)) * 10 + (bOf S 2 - 48)) * 10 + (bOf S 3 - 48)) % 100 / 10) := dig_of (by omega) (by omega)
    have e3 : g3 = UInt8.ofNat (48 + ((((bOf S 0 - 48) * 10 + (bOf S 1 - 48)) * 10 + (bOf S 2 - 48)) * 10 + (bOf S 3 - 48)) % 100 % 10) := dig_of (by omega) (by omega)
    have e5 : g5 = UInt8.ofNat (48 + ((bOf S 5 - 48) * 10 + (bOf S 6 - 48)) / 10) := dig_of (by omega) (by omega)
    have e6 : g6 = UInt8.ofNat (48 + ((bOf S 5 - 48) * 10 + (bOf S 6 - 48)) % 10) := dig_of (by omega) (by omega)
    have e8 : g8 = UInt8.ofNat (48 + ((bOf S 8 - 48) * 10 + (bOf S 9 - 48)) / 10) := dig_of (by omega) (by omega)
    have e9 : g9 = UInt8.ofNat (48 + ((bOf S 8 - 48) * 10 + (bOf S 9 - 48)) % 10) := dig_of (by omega) (by omega)
    have e11 : g11 = UInt8.ofNat (48 + ((bOf S 11 - 48) * 10 + (bOf S 12 - 48)) / 10) := dig_of (by omega) (by omega)
    have e12 : g12 = UInt8.ofNat (48 + ((bOf S 11 - 48) * 10 + (bOf S 12 - 48)) % 10) := dig_of (by omega) (by omega)
    have e14 : g14 = UInt8.ofNat (48 + ((bOf S 14 - 48) * 10 + (bOf S 15 - 48)) / 10) := dig_of (by omega) (by omega)
    have e15 : g15 = UInt8.ofNat (48 + ((bOf S 14 - 48) * 10 + (bOf S 15 - 48)) % 10) := dig_of (by omega) (by omega)
    have e17 : g17 = UInt8.ofNat (48 + ((bOf S 17 - 48) * 10 + (bOf S 18 - 48)) / 10) := dig_of (by omega) (by omega)
    have e18 : g18 = UInt8.ofNat (48 + ((bOf S 17 - 48) * 10 + (bOf S 18 - 48)) % 10) := dig_of (by omega) (by omega)
    have e4 : g4 = UInt8.ofNat 45 := sep_of (by omega)
    have e7 : g7 = UInt8.ofNat 45 := sep_of (by omega)
    have e10 : g10 = UInt8.ofNat 32 := sep_of (by omega)
    have e13 : g13 = UInt8.ofNat 58 := sep_of (by omega)
    have e16 : g16 = UInt8.ofNat 58 := sep_of (by omega)
    rw [e0, e1, e2, e3, e4, e5, e6, e7, e8, e9, e10, e11, e12, e13, e14, e15, e16, e17, e18]
    rfl
  · simp only [numF]
    rw [show bOf (S.extract 0 4) 0 = bOf S 0 from bOf_ext S 0 4 0 (by omega) (by decide), show bOf (S.extract 0 4) 1 = bOf S 1 from bOf_ext S 0 4 1 (by omega) (by decide), show bOf (S.extract 0 4) 2 = bOf S 2 from bOf_ext S 0 4 2 (by omega) (by decide), show bOf (S.extract 0 4) 3 = bOf S 3 from bOf_ext S 0 4 3 (by omega) (by decide)]
    omega
  · intro i hi
    refine (digB_ext S 0 4 i (by omega) (by omega)).2 ?_
    rcases (by omega : i = 0 ∨ i = 1 ∨ i = 2 ∨ i = 3) with rfl | rfl | rfl | rfl
    · exact b0
    · exact b1
    · exact b2
    · exact b3
  · simp only [numF]
    rw [show bOf (S.extract 5 7) 0 = bOf S 5 from bOf_ext S 5 7 0 (by omega) (by decide), show bOf (S.extract 5 7) 1 = bOf S 6 from bOf_ext S 5 7 1 (by omega) (by decide)]
    omega
  · intro i hi
    refine (digB_ext S 5 7 i (by omega) (by omega)).2 ?_
    rcases (by omega : i = 0 ∨ i = 1) with rfl | rfl
    · exact b5
    · exact b6
  · simp only [numF]
    rw [show bOf (S.extract 8 10) 0 = bOf S 8 from bOf_ext S 8 10 0 (by omega) (by decide), show bOf (S.extract 8 10) 1 = bOf S 9 from bOf_ext S 8 10 1 (by omega) (by decide)]
    omega
  · intro i hi
    refine (digB_ext S 8 10 i (by omega) (by omega)).2 ?_
    rcases (by omega : i = 0 ∨ i = 1) with rfl | rfl
    · exact b8
    · exact b9
  · simp only [numF]
    rw [show bOf (S.extract 11 13) 0 = bOf S 11 from bOf_ext S 11 13 0 (by omega) (by decide), show bOf (S.extract 11 13) 1 = bOf S 12 from bOf_ext S 11 13 1 (by omega) (by decide)]
    omega
  · intro i hi
    refine (digB_ext S 11 13 i (by omega) (by omega)).2 ?_
    rcases (by omega : i = 0 ∨ i = 1) with rfl | rfl
    · exact b11
    · exact b12
  · simp only [numF]
    rw [show bOf (S.extract 14 16) 0 = bOf S 14 from bOf_ext S 14 16 0 (by omega) (by decide), show bOf (S.extract 14 16) 1 = bOf S 15 from bOf_ext S 14 16 1 (by omega) (by decide)]
    omega
  · intro i hi
    refine (digB_ext S 14 16 i (by omega) (by omega)).2 ?_
    rcases (by omega : i = 0 ∨ i = 1) with rfl | rfl
    · exact b14
    · exact b15
  · simp only [numF]
    rw [show bOf (S.extract 17 19) 0 = bOf S 17 from bOf_ext S 17 19 0 (by omega) (by decide), show bOf (S.extract 17 19) 1 = bOf S 18 from bOf_ext S 17 19 1 (by omega) (by decide)]
    omega
  · intro i hi
    refine (digB_ext S 17 19 i (by omega) (by omega)).2 ?_
    rcases (by omega : i = 0 ∨ i = 1) with rfl | rfl
    · exact b17
    · exact b18
theorem parse_pair (S : ByteArray) : ∃ y k d h m s e : Int, (∀ w, Calls Tryz.prog 21 #[.string S] w fun e' w' => e' = .returned (.tuple #[.agg #[.int .i64 y, .int .i64 k, .int .i64 d, .int .i64 h, .int .i64 m, .int .i64 s], .int .i64 e]) ∧ Below w.heap.size w w') ∧ (∀ w, Calls Tryz.prog 22 #[.string S] w fun e' w' => e' = .returned (.tuple #[.agg #[.int .i64 y, .int .i64 k, .int .i64 d, .int .i64 h, .int .i64 m, .int .i64 s], .int .i64 e]) ∧ Below w.heap.size w w') := by
  by_cases hz : S.size = 19
  · rcases first_fit S 19 with hf | ⟨i0, hi0, hf, hno⟩
    · obtain ⟨y, k, d, h, m, s, hy, hk, hd, hh, hm, hs, hS, n0, g0, n1, g1, n2, g2, n3, g3, n4, g4, n5, g5⟩ := fits_all S hz hf
      refine ⟨y, k, d, h, m, s, 0, fun w => Parse_gen S y k d h m s hy hk hd hh hm hs hS w, fun w => ?_⟩
      rw [n0, n1, n2, n3, n4, n5]
      exact rParse_yes S hz (fit_sep (j := 4) rfl (by decide) (hf 4 (by decide))) (fit_sep (j := 7) rfl (by decide) (hf 7 (by decide))) (fit_sep (j := 10) rfl (by decide) (hf 10 (by decide))) (fit_sep (j := 13) rfl (by decide) (hf 13 (by decide))) (fit_sep (j := 16) rfl (by decide) (hf 16 (by decide))) (fun w => rNumber_yes _ 4 (by rw [ByteArray.size_extract]; omega) (by decide) g0 w) (fun w => rNumber_yes _ 2 (by rw [ByteArray.size_extract]; omega) (by decide) g1 w) (fun w => rNumber_yes _ 2 (by rw [ByteArray.size_extract]; omega) (by decide) g2 w) (fun w => rNumber_yes _ 2 (by rw [ByteArray.size_extract]; omega) (by decide) g3 w) (fun w => rNumber_yes _ 2 (by rw [ByteArray.size_extract]; omega) (by decide) g4 w) (fun w => rNumber_yes _ 2 (by rw [ByteArray.size_extract]; omega) (by decide) g5 w) ⟨by rw [← n0]; omega, by rw [← n1]; omega, by rw [← n2]; omega, by rw [← n3]; omega, by rw [← n4]; omega, by rw [← n5]; omega⟩ w
    · refine ⟨0, 0, 0, 0, 0, 0, 3, fun w => Parse_bad S (fun X => read_bad S hz i0 hi0 hf hno X) w, fun w => ?_⟩
      by_cases s4 : bOf S 4 = 45
      case neg => exact rParse_sep4 S hz  s4 w
      by_cases s7 : bOf S 7 = 45
      case neg => exact rParse_sep7 S hz s4 s7 w
      by_cases s10 : bOf S 10 = 32
      case neg => exact rParse_sep10 S hz s4 s7 s10 w
      by_cases s13 : bOf S 13 = 58
      case neg => exact rParse_sep13 S hz s4 s7 s10 s13 w
      by_cases s16 : bOf S 16 = 58
      case neg => exact rParse_sep16 S hz s4 s7 s10 s13 s16 w
      obtain ⟨x0, N0, K0⟩ := num_ex (S.extract 0 4) (by rw [ByteArray.size_extract]; omega)
      obtain ⟨x1, N1, K1⟩ := num_ex (S.extract 5 7) (by rw [ByteArray.size_extract]; omega)
      obtain ⟨x2, N2, K2⟩ := num_ex (S.extract 8 10) (by rw [ByteArray.size_extract]; omega)
      obtain ⟨x3, N3, K3⟩ := num_ex (S.extract 11 13) (by rw [ByteArray.size_extract]; omega)
      obtain ⟨x4, N4, K4⟩ := num_ex (S.extract 14 16) (by rw [ByteArray.size_extract]; omega)
      obtain ⟨x5, N5, K5⟩ := num_ex (S.extract 17 19) (by rw [ByteArray.size_extract]; omega)
      refine rParse_part S hz s4 s7 s10 s13 s16 K0 K1 K2 K3 K4 K5 ?_ w
      rcases (by omega : i0 = 0 ∨ i0 = 1 ∨ i0 = 2 ∨ i0 = 3 ∨ i0 = 4 ∨ i0 = 5 ∨ i0 = 6 ∨ i0 = 7 ∨ i0 = 8 ∨ i0 = 9 ∨ i0 = 10 ∨ i0 = 11 ∨ i0 = 12 ∨ i0 = 13 ∨ i0 = 14 ∨ i0 = 15 ∨ i0 = 16 ∨ i0 = 17 ∨ i0 = 18) with rfl | rfl | rfl | rfl | rfl | rfl | rfl | rfl | rfl | rfl | rfl | rfl | rfl | rfl | rfl | rfl | rfl | rfl | rfl
      · exact .inl (neg_of N0 (by omega) (j := 0) (by omega) (fun q => hno (dig_fits rfl q)))
      · exact .inl (neg_of N0 (by omega) (j := 1) (by omega) (fun q => hno (dig_fits rfl q)))
      · exact .inl (neg_of N0 (by omega) (j := 2) (by omega) (fun q => hno (dig_fits rfl q)))
      · exact .inl (neg_of N0 (by omega) (j := 3) (by omega) (fun q => hno (dig_fits rfl q)))
      · exact absurd (sep_fits (j := 4) rfl (by decide) s4) hno
      · exact .inr (.inl (neg_of N1 (by omega) (j := 5) (by omega) (fun q => hno (dig_fits rfl q))))
      · exact .inr (.inl (neg_of N1 (by omega) (j := 6) (by omega) (fun q => hno (dig_fits rfl q))))
      · exact absurd (sep_fits (j := 7) rfl (by decide) s7) hno
      · exact .inr (.inr (.inl (neg_of N2 (by omega) (j := 8) (by omega) (fun q => hno (dig_fits rfl q)))))
      · exact .inr (.inr (.inl (neg_of N2 (by omega) (j := 9) (by omega) (fun q => hno (dig_fits rfl q)))))
      · exact absurd (sep_fits (j := 10) rfl (by decide) s10) hno
      · exact .inr (.inr (.inr (.inl (neg_of N3 (by omega) (j := 11) (by omega) (fun q => hno (dig_fits rfl q))))))
      · exact .inr (.inr (.inr (.inl (neg_of N3 (by omega) (j := 12) (by omega) (fun q => hno (dig_fits rfl q))))))
      · exact absurd (sep_fits (j := 13) rfl (by decide) s13) hno
      · exact .inr (.inr (.inr (.inr (.inl (neg_of N4 (by omega) (j := 14) (by omega) (fun q => hno (dig_fits rfl q)))))))
      · exact .inr (.inr (.inr (.inr (.inl (neg_of N4 (by omega) (j := 15) (by omega) (fun q => hno (dig_fits rfl q)))))))
      · exact absurd (sep_fits (j := 16) rfl (by decide) s16) hno
      · exact .inr (.inr (.inr (.inr (.inr (neg_of N5 (by omega) (j := 17) (by omega) (fun q => hno (dig_fits rfl q)))))))
      · exact .inr (.inr (.inr (.inr (.inr (neg_of N5 (by omega) (j := 18) (by omega) (fun q => hno (dig_fits rfl q)))))))
  · exact ⟨0, 0, 0, 0, 0, 0, 3, fun w => Parse_bad S (fun X => read_size S hz X) w, fun w => rParse_size S hz w⟩
end Go.Proofs.YtgnfaemnehmgcaaGreatDoor.Cal
