/-  ·  -/
import Derived.Test.YtgnfaemnehmgcaaGreatDoorQ28
import Derived.Lib.AtoiErrMem
import Derived.Test.YtgnfaemnehmgcaaGreatDoorQ10
import Derived.Defers
import Derived.Recover
import Derived.Laws.Pointers
namespace Go.Proofs.YtgnfaemnehmgcaaGreatDoor.Cal
open Go Go.RowKit
attribute [local go_sem] Oper.semAt_some
theorem fits_digit (c : Int) (w : World) (h : 48 ≤ c ∧ c ≤ 57) :
    Calls Tryz.prog 131 #[.int .u8 c, .int .u8 48] w fun e w' => e = .returned (.bool true) ∧ w = w' := by
  have h1 := h.1
  have h2 := h.2
  clear h
  go_enter Tryz.func131, Tryz.ntmps131
  go_wp2
  go_ret
  exact ⟨rfl, rfl⟩
theorem fits_sign (c : Int) (w : World) (h : ¬ c = 48) :
    Calls Tryz.prog 131 #[.int .u8 c, .int .u8 c] w fun e w' => e = .returned (.bool true) ∧ w = w' := by
  have hb : (c == 48) = false := by simpa using h
  go_enter Tryz.func131, Tryz.ntmps131
  go_wp2
  go_ret
  exact ⟨rfl, rfl⟩
def Fits (c p : Int) : Prop := (p = 48 ∧ 48 ≤ c ∧ c ≤ 57) ∨ (¬ p = 48 ∧ c = p)
theorem fits_any (c p : Int) (w : World) (h : Fits c p) :
    Calls Tryz.prog 131 #[.int .u8 c, .int .u8 p] w fun e w' => e = .returned (.bool true) ∧ w = w' := by
  rcases h with ⟨rfl, h⟩ | ⟨h, rfl⟩
  · exact fits_digit c w h
  · exact fits_sign c w h
set_option maxHeartbeats 1000000 in
theorem part_any (S : ByteArray) (i j : Nat) (n : Int) (a1 : Nat) (w : World) (hc : w.cell? ⟨a1, 0, none⟩ = some (.string S)) (hij : i ≤ j) (hj : j ≤ S.size) (hsz : S.size ≤ 1000) (h18 : j - i ≤ 18) (hn : Lib.atoi ((S.data.toList.drop i).take (j - i)) = some n) :
    Calls Tryz.prog 132 #[.int .i64 (i : Int), .int .i64 (j : Int), .pointer (some ⟨a1, 0, none⟩)] w fun e w' => e = .returned (.int .i64 n) ∧ Below w.heap.size w w' := by
  have zc := cell_lt hc
  have HA := Lib.hid (fun X => atoi_any (S.extract i j) n (by simp [ByteArray.size_extract]; omega) (by rw [Lib.extract_data]; exact hn) X)
  have h1 : (i : Int) ≤ j := by omega
  have h2 : (j : Int) ≤ S.size := by omega
  have h3 : i ≤ j := hij
  have h4 : j ≤ S.size := hj
  clear hn hij hj
  go_enter Tryz.func132, Tryz.ntmps132
  go_wp2_with (go_at_call 133; refine (HA.out _).mono ?_; rintro e w2 ⟨rfl, t, rfl⟩)
  go_ret
  exact ⟨rfl, Lib.bytesWorld_below _ _ _⟩
end Go.Proofs.YtgnfaemnehmgcaaGreatDoor.Cal
namespace Go.Proofs.YtgnfaemnehmgcaaGreatDoor.Cal
open Go Go.RowKit
attribute [local go_sem] Oper.semAt_some
theorem byte_at (S : ByteArray) (j : Nat) (h : j < S.size) : (S[j]'h) = (S.data.toList)[j]?.getD 0 := by
  have h2 : j < S.data.toList.length := by simpa using h
  rw [List.getElem?_eq_getElem h2, Option.getD_some]
  simp [ByteArray.getElem_eq_getElem_data]
theorem ofNat_to {n : Nat} (h : n < 256) : (UInt8.ofNat n).toNat = n := by simp [UInt8.toNat_ofNat']; omega
theorem dig_fit {a : Nat} (h : a < 10) : Fits ((UInt8.ofNat (48 + a)).toNat : Int) 48 := by
  rw [ofNat_to (by omega)]
  exact .inl ⟨rfl, by omega, by omega⟩
def patL : List UInt8 := [48, 48, 48, 48, 45, 48, 48, 45, 48, 48, 32, 48, 48, 58, 48, 48, 58, 48, 48]
set_option maxHeartbeats 4000000 in
theorem fmt_fits {y k d h m s : Nat} (hy : y < 10000) (hk : k < 100) (hd : d < 100) (hh : h < 100) (hm : m < 100) (hs : s < 100) : ∀ j, j < 19 → Fits ((((fmtL y k d h m s)[j]?.getD 0 : UInt8).toNat : Int)) (((patL[j]?.getD 0 : UInt8).toNat : Int)) := by
  intro j hj
  rcases (by omega : j = 0 ∨ j = 1 ∨ j = 2 ∨ j = 3 ∨ j = 4 ∨ j = 5 ∨ j = 6 ∨ j = 7 ∨ j = 8 ∨ j = 9 ∨ j = 10 ∨ j = 11 ∨ j = 12 ∨ j = 13 ∨ j = 14 ∨ j = 15 ∨ j = 16 ∨ j = 17 ∨ j = 18) with rfl | rfl | rfl | rfl | rfl | rfl | rfl | rfl | rfl | rfl | rfl | rfl | rfl | rfl | rfl | rfl | rfl | rfl | rfl
  · show Fits ((UInt8.ofNat (48 + y / 100 / 10)).toNat : Int) ((48 : UInt8).toNat : Int)
    exact dig_fit (a := y / 100 / 10) (by omega)
  · show Fits ((UInt8.ofNat (48 + y / 100 % 10)).toNat : Int) ((48 : UInt8).toNat : Int)
    exact dig_fit (a := y / 100 % 10) (by omega)
  · show Fits ((UInt8.ofNat (48 + y % 100 / 10)).toNat : Int) ((48 : UInt8).toNat : Int)
    exact dig_fit (a := y % 100 / 10) (by omega)
  · show Fits ((UInt8.ofNat (48 + y % 100 % 10)).toNat : Int) ((48 : UInt8).toNat : Int)
    exact dig_fit (a := y % 100 % 10) (by omega)
  · show Fits ((45 : UInt8).toNat : Int) ((45 : UInt8).toNat : Int)
    exact .inr ⟨by decide, rfl⟩
  · show Fits ((UInt8.ofNat (48 + k / 10)).toNat : Int) ((48 : UInt8).toNat : Int)
    exact dig_fit (a := k / 10) (by omega)
  · show Fits ((UInt8.ofNat (48 + k % 10)).toNat : Int) ((48 : UInt8).toNat : Int)
    exact dig_fit (a := k % 10) (by omega)
  · show Fits ((45 : UInt8).toNat : Int) ((45 : UInt8).toNat : Int)
    exact .inr ⟨by decide, rfl⟩
  · show Fits ((UInt8.ofNat (48 + d / 10)).toNat : Int) ((48 : UInt8).toNat : Int)
    exact dig_fit (a := d / 10) (by omega)
  · show Fits ((UInt8.ofNat (48 + d % 10)).toNat : Int) ((48 : UInt8).toNat : Int)
    exact dig_fit (a := d % 10) (by omega)
  · show Fits ((32 : UInt8).toNat : Int) ((32 : UInt8).toNat : Int)
    exact .inr ⟨by decide, rfl⟩
  · show Fits ((UInt8.ofNat (48 + h / 10)).toNat : Int) ((48 : UInt8).toNat : Int)
    exact dig_fit (a := h / 10) (by omega)
  · show Fits ((UInt8.ofNat (48 + h % 10)).toNat : Int) ((48 : UInt8).toNat : Int)
    exact dig_fit (a := h % 10) (by omega)
  · show Fits ((58 : UInt8).toNat : Int) ((58 : UInt8).toNat : Int)
    exact .inr ⟨by decide, rfl⟩
  · show Fits ((UInt8.ofNat (48 + m / 10)).toNat : Int) ((48 : UInt8).toNat : Int)
    exact dig_fit (a := m / 10) (by omega)
  · show Fits ((UInt8.ofNat (48 + m % 10)).toNat : Int) ((48 : UInt8).toNat : Int)
    exact dig_fit (a := m % 10) (by omega)
  · show Fits ((58 : UInt8).toNat : Int) ((58 : UInt8).toNat : Int)
    exact .inr ⟨by decide, rfl⟩
  · show Fits ((UInt8.ofNat (48 + s / 10)).toNat : Int) ((48 : UInt8).toNat : Int)
    exact dig_fit (a := s / 10) (by omega)
  · show Fits ((UInt8.ofNat (48 + s % 10)).toNat : Int) ((48 : UInt8).toNat : Int)
    exact dig_fit (a := s % 10) (by omega)
theorem fmt_len (y k d h m s : Nat) : (fmtL y k d h m s).length = 19 := rfl
theorem atoi_dig2 {n : Nat} (h : n < 100) : Lib.atoi (dig2 n) = some (n : Int) := by
  have key : ∀ a b : Fin 10, Lib.atoi [UInt8.ofNat (48 + a.1), UInt8.ofNat (48 + b.1)] = some ((10 * a.1 + b.1 : Nat) : Int) := by decide +kernel
  have := key ⟨n / 10, by omega⟩ ⟨n % 10, by omega⟩
  rw [show 10 * (n / 10) + n % 10 = n by omega] at this
  exact this
theorem dv_dig {a : Nat} (h : a < 10) : Lib.digitVal (UInt8.ofNat (48 + a)) = some a := by
  rcases (by omega : a = 0 ∨ a = 1 ∨ a = 2 ∨ a = 3 ∨ a = 4 ∨ a = 5 ∨ a = 6 ∨ a = 7 ∨ a = 8 ∨ a = 9) with rfl | rfl | rfl | rfl | rfl | rfl | rfl | rfl | rfl | rfl <;> rfl
theorem no_sign {a : Nat} (h : a < 10) : (UInt8.ofNat (48 + a) == 45) = false ∧ (UInt8.ofNat (48 + a) == 43) = false := by
  rcases (by omega : a = 0 ∨ a = 1 ∨ a = 2 ∨ a = 3 ∨ a = 4 ∨ a = 5 ∨ a = 6 ∨ a = 7 ∨ a = 8 ∨ a = 9) with rfl | rfl | rfl | rfl | rfl | rfl | rfl | rfl | rfl | rfl <;> exact ⟨rfl, rfl⟩
theorem atoi_four {n : Nat} (h : n < 10000) : Lib.atoi (dig4 n) = some (n : Int) := by
  show Lib.atoi [UInt8.ofNat (48 + n / 100 / 10), UInt8.ofNat (48 + n / 100 % 10), UInt8.ofNat (48 + n % 100 / 10), UInt8.ofNat (48 + n % 100 % 10)] = _
  have s := no_sign (a := n / 100 / 10) (by omega)
  have e1 := dv_dig (a := n / 100 / 10) (by omega)
  have e2 := dv_dig (a := n / 100 % 10) (by omega)
  have e3 := dv_dig (a := n % 100 / 10) (by omega)
  have e4 := dv_dig (a := n % 100 % 10) (by omega)
  simp only [Lib.atoi, s.1, s.2, Bool.false_eq_true, if_false, Lib.decNat, List.isEmpty_cons, Lib.decFrom, e1, e2, e3, e4, Option.map_some, Option.some.injEq]
  omega
structure RdBox (w X : World) (S : ByteArray) : Prop where
  c : X.cell? ⟨w.heap.size, 0, none⟩ = some (.string S)
  r : Res6 X (w.heap.size + 1)
  b : Below w.heap.size w X
theorem RdBox.below {w X Y : World} {S : ByteArray} (h : RdBox w X S) (hb : Below X.heap.size X Y) : RdBox w Y S := ⟨cell_below hb h.c, h.r.below hb, bt h.b hb⟩
theorem rd_new (w : World) (S : ByteArray) : RdBox w ((w.alloc (.cells #[.string S] 9)).alloc (.cells #[.int .i64 0, .int .i64 0, .int .i64 0, .int .i64 0, .int .i64 0, .int .i64 0] 26)) S := by
  have b1 := below_alloc (Below.refl w.heap.size w) (.cells #[.string S] 9)
  have h1 : (w.alloc (.cells #[.string S] 9)).cell? ⟨w.heap.size, 0, none⟩ = some (.string S) := by simp
  have e1 : (w.alloc (.cells #[.string S] 9)).heap.size = w.heap.size + 1 := by simp
  generalize w.alloc (.cells #[.string S] 9) = W1 at *
  have b2 := below_alloc (Below.refl W1.heap.size W1) (.cells #[.int .i64 0, .int .i64 0, .int .i64 0, .int .i64 0, .int .i64 0, .int .i64 0] 26)
  have h2 := Res6.new W1 (.int .i64 0) (.int .i64 0) (.int .i64 0) (.int .i64 0) (.int .i64 0) (.int .i64 0) 26
  rw [e1] at h2
  exact ⟨cell_below b2 h1, h2, bt b1 b2⟩
set_option maxRecDepth 100000 in
set_option maxHeartbeats 4000000 in
theorem read_gen (S : ByteArray) (y k d h m s : Nat) (hy : y < 10000) (hk : k < 100) (hd : d < 100) (hh : h < 100) (hm : m < 100) (hs : s < 100) (hS : S.data.toList = fmtL y k d h m s) (w : World) :
    Calls Tryz.prog 77 #[.string S] w fun e w' => e = .returned (.agg #[.int .i64 (y : Int), .int .i64 (k : Int), .int .i64 (d : Int), .int .i64 (h : Int), .int .i64 (m : Int), .int .i64 (s : Int)]) ∧ Below w.heap.size w w' := by
  have hz : S.size = 19 := by have := congrArg List.length hS; rw [fmt_len] at this; simpa using this
  have hzi : (S.size : Int) = 19 := by omega
  have hmf : ∀ (fn : Fn) (first cap : Array Value) (w : World), (Instr.makeFunc fn first cap).run Tryz.prog w = .ok (.func fn first cap) w := fun _ _ _ _ => rfl
  have HF := Lib.hid (fun j (hj : j < 19) => fmt_fits hy hk hd hh hm hs j hj)
  have PA : ∀ (i j : Nat) (n : Nat) (l : List UInt8), i ≤ j → j ≤ 19 → j - i ≤ 18 → ((fmtL y k d h m s).drop i).take (j - i) = l → Lib.atoi l = some (n : Int) → ∀ X, X.cell? ⟨w.heap.size, 0, none⟩ = some (.string S) → Calls Tryz.prog 132 #[.int .i64 (i : Int), .int .i64 (j : Int), .pointer (some ⟨w.heap.size, 0, none⟩)] X fun e w' => e = .returned (.int .i64 (n : Int)) ∧ Below X.heap.size X w' :=
    fun i j n l h1 h2 h3 h4 h5 X hX => part_any S i j (n : Int) _ X hX h1 (by omega) (by omega) h3 (by rw [hS, h4]; exact h5)
  have P1 := Lib.hid (PA 0 4 y (dig4 y) (by decide) (by decide) (by decide) rfl (atoi_four hy))
  have P2 := Lib.hid (PA 5 7 k (dig2 k) (by decide) (by decide) (by decide) rfl (atoi_dig2 hk))
  have P3 := Lib.hid (PA 8 10 d (dig2 d) (by decide) (by decide) (by decide) rfl (atoi_dig2 hd))
  have P4 := Lib.hid (PA 11 13 h (dig2 h) (by decide) (by decide) (by decide) rfl (atoi_dig2 hh))
  have P5 := Lib.hid (PA 14 16 m (dig2 m) (by decide) (by decide) (by decide) rfl (atoi_dig2 hm))
  have P6 := Lib.hid (PA 17 19 s (dig2 s) (by decide) (by decide) (by decide) rfl (atoi_dig2 hs))
  have HR := Lib.hid (rd_new w S)
  have HSS := Lib.hid hS
  clear PA hS hy hk hd hh hm hs
  generalize (y : Int) = yi at *
  generalize (k : Int) = ki at *
  generalize (d : Int) = di at *
  generalize (h : Int) = hi at *
  generalize (m : Int) = mi at *
  generalize (s : Int) = si at *
  go_enter Tryz.func77, Tryz.ntmps77
  go_upto_region 1 with fail
  generalize (w.alloc (.cells #[.string S] 9)).alloc (.cells #[.int .i64 0, .int .i64 0, .int .i64 0, .int .i64 0, .int .i64 0, .int .i64 0] 26) = W1 at *
  have c0 := HR.out.c
  have zc := cell_lt c0
  go_upto_region 4 with fail
  clear c0 zc
  go_loopw [3, 9] (fun s3 s9 wr => ∃ (j : Nat) (v3 : Value), j ≤ 19 ∧ s3 = v3 ∧ s9 = .int .i64 (j : Int) ∧ Hid (RdBox w wr S)) (fun _ s _ => 19 - (intOf s).toNat)
  case atStart => exact ⟨0, _, Nat.zero_le _, rfl, rfl, HR⟩
  case round =>
    clear HR
    obtain ⟨j, v3, hj, rfl, rfl, HR⟩ := hrel
    by_cases hlt : j < 19
    · have hki : (j : Int) < 19 := by omega
      have vk : IntKind.i64.wrap ((j : Int) + 1) = (j : Int) + 1 := IntWalk.i64_in _ (by omega)
      have hjS : j < S.size := by omega
      have HFJ := Lib.hid (show ∀ (h1 : j < S.size) (h2 : j < (⟨#[48, 48, 48, 48, 45, 48, 48, 45, 48, 48, 32, 48, 48, 58, 48, 48, 58, 48, 48]⟩ : ByteArray).size), Fits ((S[j]'h1).toNat : Int) (((⟨#[48, 48, 48, 48, 45, 48, 48, 45, 48, 48, 32, 48, 48, 58, 48, 48, 58, 48, 48]⟩ : ByteArray)[j]'h2).toNat : Int) from fun h1 h2 => by
        rw [byte_at S j h1, byte_at _ j h2, HSS.out]
        exact HF.out j hlt)
      have HK := Lib.hid hlt
      have c0 := HR.out.c
      have zc := cell_lt c0
      go_upto_region 6 with fail
      go_region_with (go_at_call 131; refine (fits_any _ _ _ (HFJ.out _ _)).mono ?_; rintro e w' ⟨rfl, rfl⟩)
      all_goals (try go_wp2_with fail)
      all_goals exact ⟨⟨j + 1, _, HK.out, rfl, by simp, Lib.hid (HR.out.below (Below.drew (Below.refl _ _)))⟩, by have := HK.out; simp [intOf]; omega⟩
    · obtain rfl : j = 19 := by omega
      clear hlt hj HF
      have c0 := HR.out.c
      have zc := cell_lt c0
      go_upto_region 10 with fail
      clear c0 zc
      go_wp2_with fail
      refine (P1.out _ HR.out.c).mono ?_
      rintro e w1 ⟨rfl, hb⟩
      have HR1 := Lib.hid (HR.out.below hb)
      clear hb
      go_wp2_with fail
      refine (P2.out _ HR1.out.c).mono ?_
      rintro e w2 ⟨rfl, hb⟩
      have HR2 := Lib.hid (HR1.out.below hb)
      clear hb
      go_wp2_with fail
      refine (P3.out _ HR2.out.c).mono ?_
      rintro e w3 ⟨rfl, hb⟩
      have HR3 := Lib.hid (HR2.out.below hb)
      clear hb
      go_wp2_with fail
      refine (P4.out _ HR3.out.c).mono ?_
      rintro e w4 ⟨rfl, hb⟩
      have HR4 := Lib.hid (HR3.out.below hb)
      clear hb
      go_wp2_with fail
      refine (P5.out _ HR4.out.c).mono ?_
      rintro e w5 ⟨rfl, hb⟩
      have HR5 := Lib.hid (HR4.out.below hb)
      clear hb
      go_wp2_with fail
      refine (P6.out _ HR5.out.c).mono ?_
      rintro e w6 ⟨rfl, hb⟩
      have HR6 := Lib.hid (HR5.out.below hb)
      clear hb
      obtain ⟨⟨v0, r0⟩, ⟨v1, r1⟩, ⟨v2, r2⟩, ⟨v3, r3⟩, ⟨v4, r4⟩, ⟨v5, r5⟩, rz⟩ := HR6.out.r
      have z0 := rz 0
      have z1 := rz 1
      have z2 := rz 2
      have z3 := rz 3
      have z4 := rz 4
      have z5 := rz 5
      have zr := cell_lt r0
      clear rz
      go_wp2_with fail
      refine bodyPost_ret (v := .agg #[.int .i64 yi, .int .i64 ki, .int .i64 di, .int .i64 hi, .int .i64 mi, .int .i64 si]) (by simp [results, Tryz.results77, go_sem, r0, r1, r2, r3, r4, r5]) rfl ⟨rfl, ?_⟩
      have st : ∀ (X : World) (i o : Nat) (v : Value), w.heap.size ≤ i → Below w.heap.size w X → Below w.heap.size w (X.setCell ⟨i, o, none⟩ v) := fun X i o v h hb => hb.setCell (p := ⟨i, o, none⟩) h _
      exact st _ _ _ _ (by omega) (st _ _ _ _ (by omega) (st _ _ _ _ (by omega) (st _ _ _ _ (by omega) (st _ _ _ _ (by omega) (st _ _ _ _ (by omega) HR6.out.b)))))
end Go.Proofs.YtgnfaemnehmgcaaGreatDoor.Cal
