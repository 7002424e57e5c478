/-  ·  ·  -/
import Derived.Test.YtgnfaemnehmgcaaGreatDoorQ29
import Derived.Test.YtgnfaemnehmgcaaGreatDoorQ02
import Derived.Lib.Strings
import Derived.Lib.Slices
import Derived.Lib.Walk
import Derived.Laws.BytesString
import Derived.Test.YtgnfaemnehmgcaaGreatDoorQ06
namespace Go
section
variable {F : Fence} {n : Nat} {P : Program}
theorem wpIn_region_cls {id : Nat} {Q : Exit → Act → World → Prop} {a : Act} {w : World} {l : List Oper} (C : World → Prop) (c m : Nat) (hC : C w.drew) (hnb : l.all Oper.noDefer = true) (hm : P.follows .mixedOrders = true)
    (hs : Region.noSelect l.toArray = true) (hG : Region.gateB .any l.toArray c = true) (hB : Region.lexFromP .any l.toArray c c 0 (Array.replicate l.length false) = true)
    (hlm : l.length = c + m)
    (h : wpQuietIn F n P l.toArray C (fun a' => ∀ w', C w' → wpAnyIn F n P .any l.toArray Q m (List.replicate c true ++ List.replicate m false).toArray a' w') (l.take c) a) : (Code.region id l.toArray true).wpIn F n P Q a w := by
  have G := Gate.of hG
  have hle : c ≤ l.length := by simpa using G.le
  have hlen : (l.take c).length = c := by simp [hle]
  refine wpIn_region_any hm ?_
  have hp := wpAnyPIn_lex (F := F) (n := n) (P := P) (C := C) (md := .any) (c := c) hs (l.take c) 0 (Array.replicate l.length false) a
    (fun j hj => by simp [List.getElem?_take]; omega) (by rw [hlen]; exact hB) h
  have := wpAnyIn_of_pre_nd (Q := Q) (L := (List.replicate c true ++ List.replicate m false).toArray) (m := m) (noDefer_all hnb) G (fun listed h1 h2 h3 => ?_) (fun a w hw hk => hk w hw) _ _ a { w with drawn := w.drawn + 1 } hC ?_ hp
  · rw [hlen] at this
    simpa [← hlm] using this
  · apply Array.ext
    · simp at h1 ⊢; omega
    · intro i hi hi'
      have e : listed[i] = listed.getD i false := by simp [Array.getD, hi]
      rw [e]
      rcases Nat.lt_or_ge i c with hc | hc
      · rw [h2 i hc]; simp [hc]
      · rw [h3 i hc]; simp [List.getElem_append, Nat.not_lt.2 hc]
  · refine ⟨by simp, fun j _ => ?_, fun i o _ hi => ?_⟩
    · simp [Array.getD]
    · simp [Array.getD] at hi
end
end Go
namespace Go.Proofs.YtgnfaemnehmgcaaGreatDoor.Cal
open Go Go.RowKit
attribute [local go_sem] Oper.semAt_some
theorem conv_one (w : World) (x : Int) : (convert 49 9 (.slice (some ⟨w.heap.size, 0, none⟩) 1 1)).run Tryz.prog (w.alloc (.cells #[.int .u8 x] 5)) = .ok (.string ⟨#[UInt8.ofNat x.toNat]⟩) (w.alloc (.cells #[.int .u8 x] 5)) := by
  rw [run_convert_bytes_string _ _ _ 5 _ _ _ Tryz.underlying49 Tryz.underlying5 Tryz.underlying9]
  have hc : (w.alloc (.cells #[.int .u8 x] 5)).cell? ⟨w.heap.size, 0, none⟩ = some (.int .u8 x) := by simp
  exact run_bytesToString _ _ 1 1 [x] (by simp [loadCells, go_sem, hc])
attribute [local go_sem] conv_one
def digR (n : Nat) : List UInt8 := if _h : n = 0 then [] else digR (n / 10) ++ [48 + UInt8.ofNat (n % 10)]
termination_by n
decreasing_by omega
theorem digR_zero : digR 0 = [] := by rw [digR, dif_pos rfl]
theorem digR_step {n : Nat} (h : n ≠ 0) : digR n = digR (n / 10) ++ [48 + UInt8.ofNat (n % 10)] := by rw [digR, dif_neg h]
theorem digR_len : ∀ (k n : Nat), n < 10 ^ k → (digR n).length ≤ k
  | 0, n, h => by
    obtain rfl : n = 0 := by simpa using h
    rw [digR_zero]
    exact Nat.le_refl _
  | k + 1, n, h => by
    by_cases e : n = 0
    · subst e
      rw [digR_zero]
      exact Nat.zero_le _
    · rw [digR_step e, List.length_append]
      have := digR_len k (n / 10) (by rw [Nat.pow_succ] at h; omega)
      simp
      exact this
def padL (n : Int) (least : Nat) : List UInt8 := (if n < 0 then [45] else []) ++ (List.replicate (least - (digR n.natAbs).length) 48 ++ digR n.natAbs)
def sizeV : Value → Nat
  | .string s => s.size
  | _ => 0
set_option maxRecDepth 100000 in
set_option maxHeartbeats 1000000 in
theorem rPadded_pos (n : Int) (h0 : -9223372036854775808 ≤ n) (h9 : n ≤ 9223372036854775807) (hneg : ¬ n < 0) (least : Nat) (hl : least ≤ 4) (w : World) :
    Calls Tryz.prog 75 #[.int .i64 n, .int .i64 (least : Int)] w fun e w' => ∃ S, e = .returned (.string S) ∧ S.data.toList = padL n least ∧ Below w.heap.size w w' := by
  have HL := Lib.hid hl
  have HN := Lib.hid hneg
  have hdl : (digR n.natAbs).length ≤ 19 := digR_len 19 _ (by have : (10 : Nat) ^ 19 = 10000000000000000000 := by decide
                                                              omega)
  go_enter Tryz.func75, Tryz.ntmps75
  go_wp2_with fail
  go_loopw [0, 6, 7] (fun s0 s6 s7 wr => ∃ (z : Int) (S : ByteArray) (v7 : Value), s0 = .int .i64 z ∧ s6 = .string S ∧ s7 = v7 ∧ Hid (0 ≤ z ∧ z ≤ n) ∧ Hid (digR z.natAbs ++ S.data.toList = digR n.natAbs) ∧ Hid (Below w.heap.size w wr)) (fun s0 _ _ _ => (intOf s0).natAbs)
  case atStart => exact ⟨n, _, _, rfl, rfl, rfl, Lib.hid ⟨by omega, by omega⟩, Lib.hid (by simp), Lib.hid (Below.refl _ _)⟩
  case round =>
    obtain ⟨z, S, v7, rfl, rfl, rfl, HZ, HD, HB⟩ := hrel
    obtain ⟨z0, z9⟩ := HZ.out
    have hsz : S.size ≤ 30 := by have h2 := congrArg List.length HD.out; simp at h2; omega
    have hszi : (S.size : Int) ≤ 30 := by omega
    by_cases hz : z = 0
    · subst hz
      have HD := Lib.hid (show S.data.toList = digR n.natAbs by have := HD.out; rwa [show (0 : Int).natAbs = 0 from rfl, digR_zero, List.nil_append] at this)
      clear z0 z9 HZ h0 h9 hl hneg
      go_wp2_with fail
      go_loopw [6] (fun s6 wr => ∃ (j : Nat) (S : ByteArray), s6 = .string S ∧ Hid (S.data.toList = List.replicate j 48 ++ digR n.natAbs) ∧ Hid (j ≤ least - (digR n.natAbs).length) ∧ Hid (Below w.heap.size w wr)) (fun s _ => least - sizeV s)
      case atStart => exact ⟨0, S, rfl, Lib.hid (by simpa using HD.out), Lib.hid (Nat.zero_le _), HB⟩
      case round =>
        clear HB HD
        obtain ⟨j, S, rfl, HD, HJ, HB⟩ := hrel
        have hlen : S.size = j + (digR n.natAbs).length := by have := congrArg List.length HD.out; simpa using this
        have hl := HL.out
        have hj := HJ.out
        have hsz : S.size ≤ 30 := by omega
        have hszi : (S.size : Int) ≤ 30 := by omega
        by_cases hlt : S.size < least
        · have hki : (S.size : Int) < least := by omega
          have HD2 := Lib.hid (show ((⟨#[48]⟩ : ByteArray) ++ S).data.toList = List.replicate (j + 1) 48 ++ digR n.natAbs by rw [show ((⟨#[48]⟩ : ByteArray) ++ S).data.toList = 48 :: S.data.toList by simp, HD.out]; simp [List.replicate_succ])
          have HJ2 := Lib.hid (show j + 1 ≤ least - (digR n.natAbs).length by omega)
          have HS2 := Lib.hid (show least - ((⟨#[48]⟩ : ByteArray) ++ S).size < least - S.size by rw [show ((⟨#[48]⟩ : ByteArray) ++ S).size = S.size + 1 by rw [ByteArray.size_append]; show 1 + S.size = _; omega]; omega)
          clear hlen hj
          go_wp2_with fail
          go_roundw
          case rel => exact ⟨j + 1, _, rfl, HD2, HJ2, HB⟩
          case measure => exact HS2.out
        · have hki : ¬ (S.size : Int) < least := by omega
          have HR := Lib.hid (show (⟨#[]⟩ ++ S : ByteArray).data.toList = padL n least by
            have e : (⟨#[]⟩ ++ S : ByteArray).data.toList = S.data.toList := by simp
            have hj2 : j = least - (digR n.natAbs).length := by omega
            rw [e, HD.out, hj2]
            unfold padL
            rw [if_neg (by have := HN.out; omega)]
            simp)
          clear hlt hlen hj
          go_wp2_with fail
          go_ret
          exact ⟨_, rfl, HR.out, HB.out⟩
    · have hzq : (z == 0) = false := beq_eq_false_iff_ne.2 hz
      obtain ⟨k, hk⟩ : ∃ k : Nat, z = (k : Int) := ⟨z.natAbs, by omega⟩
      have hk0 : k ≠ 0 := by omega
      have hna : z.natAbs = k := by omega
      have d1 : z.tmod 10 = ((k % 10 : Nat) : Int) := by rw [hk, Int.tmod_eq_emod_of_nonneg (by omega)]; omega
      have d2 : z.tdiv 10 = ((k / 10 : Nat) : Int) := by rw [hk, Int.tdiv_eq_ediv_of_nonneg (by omega)]; omega
      have HD2 := Lib.hid (show digR (k / 10) ++ ((⟨#[48 + UInt8.ofNat (k % 10)]⟩ : ByteArray) ++ S).data.toList = digR n.natAbs by
        rw [← HD.out, hna, digR_step hk0]
        simp)
      have HM := Lib.hid (show (z.tdiv 10).natAbs < z.natAbs by rw [d2, hna]; omega)
      have HZ2 := Lib.hid (show 0 ≤ z.tdiv 10 ∧ z.tdiv 10 ≤ n by rw [d2]; omega)
      have HNA := Lib.hid (show (z.tdiv 10).natAbs = k / 10 by rw [d2]; omega)
      obtain ⟨r, hr⟩ : ∃ r : Nat, k % 10 = r := ⟨_, rfl⟩
      have hr9 : r < 10 := by omega
      rw [hr] at d1 HD2
      obtain ⟨q, hq⟩ : ∃ q, z.tdiv 10 = q := ⟨_, rfl⟩
      rw [hq] at HM HZ2 HNA
      have vq : IntKind.i64.wrap q = q := IntWalk.i64_in _ (by have := HZ2.out; omega)
      have d4 : IntKind.i64.wrap (48 + (r : Int)) = 48 + r := IntWalk.i64_in _ (by omega)
      have d5 : IntKind.u8.wrap (48 + (r : Int)) = 48 + r := IntWalk.u8_in _ (by omega)
      have d6 : (48 + (r : Int)).toNat = 48 + r := by omega
      have d7 : IntKind.i64.wrap (r : Int) = r := IntWalk.i64_in _ (by omega)
      have d8 : IntKind.i64.wrap (-(r : Int)) = -r := IntWalk.i64_in _ (by omega)
      have d9 : - -(r : Int) = r := by omega
      have hbn := Lib.hid (below_alloc (Below.refl wr.heap.size wr) (.cells #[.int .u8 (48 + (r : Int))] 5))
      have dz : IntKind.i64.wrap z = z := IntWalk.i64_in _ (by omega)
      clear hk hna d2 hr hk0 z0 z9
      go_wp2_with fail
      go_roundw
      case rel => exact ⟨q, _, _, rfl, rfl, rfl, HZ2, Lib.hid (by rw [HNA.out]; exact HD2.out), Lib.hid (bt HB.out hbn.out)⟩
      case measure => exact HM.out
set_option maxRecDepth 100000 in
set_option maxHeartbeats 1000000 in
theorem rPadded_neg (n : Int) (h0 : -9223372036854775808 ≤ n) (h9 : n ≤ 9223372036854775807) (hneg : n < 0) (least : Nat) (hl : least ≤ 4) (w : World) :
    Calls Tryz.prog 75 #[.int .i64 n, .int .i64 (least : Int)] w fun e w' => ∃ S, e = .returned (.string S) ∧ S.data.toList = padL n least ∧ Below w.heap.size w w' := by
  have HL := Lib.hid hl
  have HN := Lib.hid hneg
  have hdl : (digR n.natAbs).length ≤ 19 := digR_len 19 _ (by have : (10 : Nat) ^ 19 = 10000000000000000000 := by decide
                                                              omega)
  go_enter Tryz.func75, Tryz.ntmps75
  go_wp2_with fail
  go_loopw [0, 6, 7] (fun s0 s6 s7 wr => ∃ (z : Int) (S : ByteArray) (v7 : Value), s0 = .int .i64 z ∧ s6 = .string S ∧ s7 = v7 ∧ Hid (n ≤ z ∧ z ≤ 0) ∧ Hid (digR z.natAbs ++ S.data.toList = digR n.natAbs) ∧ Hid (Below w.heap.size w wr)) (fun s0 _ _ _ => (intOf s0).natAbs)
  case atStart => exact ⟨n, _, _, rfl, rfl, rfl, Lib.hid ⟨by omega, by omega⟩, Lib.hid (by simp), Lib.hid (Below.refl _ _)⟩
  case round =>
    obtain ⟨z, S, v7, rfl, rfl, rfl, HZ, HD, HB⟩ := hrel
    obtain ⟨z0, z9⟩ := HZ.out
    have hsz : S.size ≤ 30 := by have h2 := congrArg List.length HD.out; simp at h2; omega
    have hszi : (S.size : Int) ≤ 30 := by omega
    by_cases hz : z = 0
    · subst hz
      have HD := Lib.hid (show S.data.toList = digR n.natAbs by have := HD.out; rwa [show (0 : Int).natAbs = 0 from rfl, digR_zero, List.nil_append] at this)
      clear z0 z9 HZ h0 h9 hl hneg
      go_wp2_with fail
      go_loopw [6] (fun s6 wr => ∃ (j : Nat) (S : ByteArray), s6 = .string S ∧ Hid (S.data.toList = List.replicate j 48 ++ digR n.natAbs) ∧ Hid (j ≤ least - (digR n.natAbs).length) ∧ Hid (Below w.heap.size w wr)) (fun s _ => least - sizeV s)
      case atStart => exact ⟨0, S, rfl, Lib.hid (by simpa using HD.out), Lib.hid (Nat.zero_le _), HB⟩
      case round =>
        clear HB HD
        obtain ⟨j, S, rfl, HD, HJ, HB⟩ := hrel
        have hlen : S.size = j + (digR n.natAbs).length := by have := congrArg List.length HD.out; simpa using this
        have hl := HL.out
        have hj := HJ.out
        have hsz : S.size ≤ 30 := by omega
        have hszi : (S.size : Int) ≤ 30 := by omega
        by_cases hlt : S.size < least
        · have hki : (S.size : Int) < least := by omega
          have HD2 := Lib.hid (show ((⟨#[48]⟩ : ByteArray) ++ S).data.toList = List.replicate (j + 1) 48 ++ digR n.natAbs by rw [show ((⟨#[48]⟩ : ByteArray) ++ S).data.toList = 48 :: S.data.toList by simp, HD.out]; simp [List.replicate_succ])
          have HJ2 := Lib.hid (show j + 1 ≤ least - (digR n.natAbs).length by omega)
          have HS2 := Lib.hid (show least - ((⟨#[48]⟩ : ByteArray) ++ S).size < least - S.size by rw [show ((⟨#[48]⟩ : ByteArray) ++ S).size = S.size + 1 by rw [ByteArray.size_append]; show 1 + S.size = _; omega]; omega)
          clear hlen hj
          go_wp2_with fail
          go_roundw
          case rel => exact ⟨j + 1, _, rfl, HD2, HJ2, HB⟩
          case measure => exact HS2.out
        · have hki : ¬ (S.size : Int) < least := by omega
          have HR := Lib.hid (show (⟨#[45]⟩ ++ S : ByteArray).data.toList = padL n least by
            have e : (⟨#[45]⟩ ++ S : ByteArray).data.toList = 45 :: S.data.toList := by simp
            have hj2 : j = least - (digR n.natAbs).length := by omega
            rw [e, HD.out, hj2]
            unfold padL
            rw [if_pos (by have := HN.out; omega)]
            simp)
          clear hlt hlen hj
          go_wp2_with fail
          go_ret
          exact ⟨_, rfl, HR.out, HB.out⟩
    · have hzq : (z == 0) = false := beq_eq_false_iff_ne.2 hz
      obtain ⟨k, hk⟩ : ∃ k : Nat, z = -(k : Int) := ⟨z.natAbs, by omega⟩
      have hk0 : k ≠ 0 := by omega
      have hna : z.natAbs = k := by omega
      have d1 : z.tmod 10 = -((k % 10 : Nat) : Int) := by rw [hk, Int.neg_tmod, Int.tmod_eq_emod_of_nonneg (by omega)]; omega
      have d2 : z.tdiv 10 = -((k / 10 : Nat) : Int) := by rw [hk, Int.neg_tdiv, Int.tdiv_eq_ediv_of_nonneg (by omega)]; omega
      have HD2 := Lib.hid (show digR (k / 10) ++ ((⟨#[48 + UInt8.ofNat (k % 10)]⟩ : ByteArray) ++ S).data.toList = digR n.natAbs by
        rw [← HD.out, hna, digR_step hk0]
        simp)
      have HM := Lib.hid (show (z.tdiv 10).natAbs < z.natAbs by rw [d2, hna]; omega)
      have HZ2 := Lib.hid (show n ≤ z.tdiv 10 ∧ z.tdiv 10 ≤ 0 by rw [d2]; omega)
      have HNA := Lib.hid (show (z.tdiv 10).natAbs = k / 10 by rw [d2]; omega)
      obtain ⟨r, hr⟩ : ∃ r : Nat, k % 10 = r := ⟨_, rfl⟩
      have hr9 : r < 10 := by omega
      rw [hr] at d1 HD2
      obtain ⟨q, hq⟩ : ∃ q, z.tdiv 10 = q := ⟨_, rfl⟩
      rw [hq] at HM HZ2 HNA
      have vq : IntKind.i64.wrap q = q := IntWalk.i64_in _ (by have := HZ2.out; omega)
      have d4 : IntKind.i64.wrap (48 + (r : Int)) = 48 + r := IntWalk.i64_in _ (by omega)
      have d5 : IntKind.u8.wrap (48 + (r : Int)) = 48 + r := IntWalk.u8_in _ (by omega)
      have d6 : (48 + (r : Int)).toNat = 48 + r := by omega
      have d7 : IntKind.i64.wrap (r : Int) = r := IntWalk.i64_in _ (by omega)
      have d8 : IntKind.i64.wrap (-(r : Int)) = -r := IntWalk.i64_in _ (by omega)
      have d9 : - -(r : Int) = r := by omega
      have hbn := Lib.hid (below_alloc (Below.refl wr.heap.size wr) (.cells #[.int .u8 (48 + (r : Int))] 5))
      have dz : IntKind.i64.wrap z = z := IntWalk.i64_in _ (by omega)
      clear hk hna d2 hr hk0 z0 z9
      by_cases hr0 : r = 0
      · subst hr0
        have d1 : z.tmod 10 = 0 := by rw [d1]; rfl
        have HD2 := Lib.hid (show digR (k / 10) ++ ((⟨#[48]⟩ : ByteArray) ++ S).data.toList = digR n.natAbs from by simpa using HD2.out)
        have hbn := Lib.hid (below_alloc (Below.refl wr.heap.size wr) (.cells #[.int .u8 48] 5))
        go_wp2_with fail
        go_roundw
        case rel => exact ⟨q, _, _, rfl, rfl, rfl, HZ2, Lib.hid (by rw [HNA.out]; exact HD2.out), Lib.hid (bt HB.out hbn.out)⟩
        case measure => exact HM.out
      · have d3 : (-(r : Int)) < 0 := by omega
        have d3b : decide ((-(r : Int)) < 0) = true := by simp; omega
        go_wp2_with fail
        go_roundw
        case rel => exact ⟨q, _, _, rfl, rfl, rfl, HZ2, Lib.hid (by rw [HNA.out]; exact HD2.out), Lib.hid (bt HB.out hbn.out)⟩
        case measure => exact HM.out
end Go.Proofs.YtgnfaemnehmgcaaGreatDoor.Cal
namespace Go.Proofs.YtgnfaemnehmgcaaGreatDoor.Cal
open Go Go.RowKit
attribute [local go_sem] Oper.semAt_some
def padB (n : Int) (least : Nat) : ByteArray := ⟨(padL n least).toArray⟩
theorem padB_size {n : Int} (h0 : -9223372036854775808 ≤ n) (h9 : n ≤ 9223372036854775807) {least : Nat} (hl : least ≤ 4) : (padB n least).size ≤ 30 := by
  have hdl : (digR n.natAbs).length ≤ 19 := digR_len 19 _ (by have : (10 : Nat) ^ 19 = 10000000000000000000 := by decide
                                                              omega)
  have e : (padB n least).size = (padL n least).length := by unfold padB; simp [ByteArray.size]
  rw [e]
  unfold padL
  rw [List.length_append, List.length_append, List.length_replicate]
  split <;> simp <;> omega
theorem rPadded_all (n : Int) (h0 : -9223372036854775808 ≤ n) (h9 : n ≤ 9223372036854775807) (least : Nat) (hl : least ≤ 4) (w : World) :
    Calls Tryz.prog 75 #[.int .i64 n, .int .i64 (least : Int)] w fun e w' => e = .returned (.string (padB n least)) ∧ Below w.heap.size w w' := by
  have key : ∀ S : ByteArray, S.data.toList = padL n least → S = padB n least := fun S h => by
    unfold padB
    apply ByteArray.ext
    apply Array.toList_inj.1
    simpa using h
  by_cases hn : n < 0
  · exact (rPadded_neg n h0 h9 hn least hl w).mono fun e w' ⟨S, he, hS, hb⟩ => ⟨by rw [he, key S hS], hb⟩
  · exact (rPadded_pos n h0 h9 hn least hl w).mono fun e w' ⟨S, he, hS, hb⟩ => ⟨by rw [he, key S hS], hb⟩
def fmtB (y m d h i s : Int) : ByteArray := padB y 4 ++ ⟨#[45]⟩ ++ padB m 2 ++ ⟨#[45]⟩ ++ padB d 2 ++ ⟨#[32]⟩ ++ padB h 2 ++ ⟨#[58]⟩ ++ padB i 2 ++ ⟨#[58]⟩ ++ padB s 2
set_option maxRecDepth 100000 in
set_option maxHeartbeats 4000000 in
theorem rFormat_any (y m d h i s : Int) (Ly : -9223372036854775808 ≤ y ∧ y ≤ 9223372036854775807) (Lm : -9223372036854775808 ≤ m ∧ m ≤ 9223372036854775807) (Ld : -9223372036854775808 ≤ d ∧ d ≤ 9223372036854775807) (Lh : -9223372036854775808 ≤ h ∧ h ≤ 9223372036854775807) (Li : -9223372036854775808 ≤ i ∧ i ≤ 9223372036854775807) (Ls : -9223372036854775808 ≤ s ∧ s ≤ 9223372036854775807) (w : World) :
    Calls Tryz.prog 20 #[.agg #[.int .i64 y, .int .i64 m, .int .i64 d, .int .i64 h, .int .i64 i, .int .i64 s]] w fun e w' => e = .returned (.string (fmtB y m d h i s)) ∧ Below w.heap.size w w' := by
  have A0 := below_alloc (Below.refl w.heap.size w) (.cells #[.int .i64 y, .int .i64 m, .int .i64 d, .int .i64 h, .int .i64 i, .int .i64 s] 67)
  obtain ⟨P0, hP0⟩ : ∃ P, padB y 4 = P := ⟨_, rfl⟩
  have hz0 : P0.size ≤ 30 := by rw [← hP0]; exact padB_size Ly.1 Ly.2 (by decide)
  have K0 := Lib.hid (fun X => rPadded_all y Ly.1 Ly.2 4 (by decide) X)
  rw [hP0] at K0
  obtain ⟨P1, hP1⟩ : ∃ P, padB m 2 = P := ⟨_, rfl⟩
  have hz1 : P1.size ≤ 30 := by rw [← hP1]; exact padB_size Lm.1 Lm.2 (by decide)
  have K1 := Lib.hid (fun X => rPadded_all m Lm.1 Lm.2 2 (by decide) X)
  rw [hP1] at K1
  obtain ⟨P2, hP2⟩ : ∃ P, padB d 2 = P := ⟨_, rfl⟩
  have hz2 : P2.size ≤ 30 := by rw [← hP2]; exact padB_size Ld.1 Ld.2 (by decide)
  have K2 := Lib.hid (fun X => rPadded_all d Ld.1 Ld.2 2 (by decide) X)
  rw [hP2] at K2
  obtain ⟨P3, hP3⟩ : ∃ P, padB h 2 = P := ⟨_, rfl⟩
  have hz3 : P3.size ≤ 30 := by rw [← hP3]; exact padB_size Lh.1 Lh.2 (by decide)
  have K3 := Lib.hid (fun X => rPadded_all h Lh.1 Lh.2 2 (by decide) X)
  rw [hP3] at K3
  obtain ⟨P4, hP4⟩ : ∃ P, padB i 2 = P := ⟨_, rfl⟩
  have hz4 : P4.size ≤ 30 := by rw [← hP4]; exact padB_size Li.1 Li.2 (by decide)
  have K4 := Lib.hid (fun X => rPadded_all i Li.1 Li.2 2 (by decide) X)
  rw [hP4] at K4
  obtain ⟨P5, hP5⟩ : ∃ P, padB s 2 = P := ⟨_, rfl⟩
  have hz5 : P5.size ≤ 30 := by rw [← hP5]; exact padB_size Ls.1 Ls.2 (by decide)
  have K5 := Lib.hid (fun X => rPadded_all s Ls.1 Ls.2 2 (by decide) X)
  rw [hP5] at K5
  have HF := Lib.hid (show fmtB y m d h i s = P0 ++ ⟨#[45]⟩ ++ P1 ++ ⟨#[45]⟩ ++ P2 ++ ⟨#[32]⟩ ++ P3 ++ ⟨#[58]⟩ ++ P4 ++ ⟨#[58]⟩ ++ P5 by unfold fmtB; rw [hP0, hP1, hP2, hP3, hP4, hP5])
  rw [HF.out]
  clear Ly Lm Ld Lh Li Ls hP0 hP1 hP2 hP3 hP4 hP5
  have HQ : ∀ j : Nat, j < 6 → (w.alloc (.cells #[.int .i64 y, .int .i64 m, .int .i64 d, .int .i64 h, .int .i64 i, .int .i64 s] 67)).cell? ⟨w.heap.size, j, none⟩ = some (.int .i64 (match j with | 0 => y | 1 => m | 2 => d | 3 => h | 4 => i | _ => s)) := fun j hj => by
    rcases (by omega : j = 0 ∨ j = 1 ∨ j = 2 ∨ j = 3 ∨ j = 4 ∨ j = 5) with rfl | rfl | rfl | rfl | rfl | rfl <;> simp
  have A0 := Lib.hid A0
  have HQ := Lib.hid HQ
  go_enter Tryz.func20, Tryz.ntmps20
  go_upto_region 1 with fail
  generalize w.alloc (.cells #[.int .i64 y, .int .i64 m, .int .i64 d, .int .i64 h, .int .i64 i, .int .i64 s] 67) = W1 at *
  refine (wpIn_wide (n := 9)).1 ?_
  refine wpIn_region_cls (fun Z => Below W1.heap.size W1 Z) 28 1 (Below.drew (Below.refl _ _)) (by kernel_rfl) (by kernel_rfl) (by kernel_rfl) (by kernel_rfl) (by kernel_rfl) rfl ?_
  simp only [List.take_succ_cons, List.take_zero]
  refine wpQuietIn_step (fun _ _ _ _ => trivial) (fun KQ hKQ => ?_)
  rw [if_pos (by rfl)]
  refine ⟨.pointer (some ⟨w.heap.size, 0, none⟩), fun Z hZ => ?_, hKQ _ ?_⟩
  · unfold Oper.quietAtIn; go_simp
  clear hKQ KQ
  simp only [Act.put, List.setIfInBounds_toArray, List.set_cons_zero, List.set_cons_succ]
  refine wpQuietIn_step (fun _ _ _ _ => trivial) (fun KQ hKQ => ?_)
  rw [if_pos (by rfl)]
  refine ⟨.int .i64 y, fun Z hZ => ?_, hKQ _ ?_⟩
  · have q0 := cell_below hZ (HQ.out 0 (by decide)); have qz := cell_lt q0; unfold Oper.quietAtIn; go_simp
  clear hKQ KQ
  simp only [Act.put, List.setIfInBounds_toArray, List.set_cons_zero, List.set_cons_succ]
  refine wpQuietIn_step (fun _ _ _ _ => trivial) (fun KQ hKQ => ?_)
  rw [if_pos (by rfl)]
  refine ⟨.string P0, fun Z hZ => ?_, hKQ _ ?_⟩
  · unfold Oper.quietAtIn; go_simp; exact callsIn_wide.2 (Calls.bel hZ (K0.out Z))
  clear hKQ KQ
  simp only [Act.put, List.setIfInBounds_toArray, List.set_cons_zero, List.set_cons_succ]
  refine wpQuietIn_step (fun _ _ _ _ => trivial) (fun KQ hKQ => ?_)
  rw [if_pos (by rfl)]
  refine ⟨.string (P0 ++ ⟨#[45]⟩), fun Z hZ => ?_, hKQ _ ?_⟩
  · unfold Oper.quietAtIn; go_simp; rw [if_neg (by omega)]; exact ⟨rfl, rfl⟩
  clear hKQ KQ
  simp only [Act.put, List.setIfInBounds_toArray, List.set_cons_zero, List.set_cons_succ]
  refine wpQuietIn_step (fun _ _ _ _ => trivial) (fun KQ hKQ => ?_)
  rw [if_pos (by rfl)]
  refine ⟨.pointer (some ⟨w.heap.size, 1, none⟩), fun Z hZ => ?_, hKQ _ ?_⟩
  · unfold Oper.quietAtIn; go_simp
  clear hKQ KQ
  simp only [Act.put, List.setIfInBounds_toArray, List.set_cons_zero, List.set_cons_succ]
  refine wpQuietIn_step (fun _ _ _ _ => trivial) (fun KQ hKQ => ?_)
  rw [if_pos (by rfl)]
  refine ⟨.int .i64 m, fun Z hZ => ?_, hKQ _ ?_⟩
  · have q0 := cell_below hZ (HQ.out 1 (by decide)); have qz := cell_lt q0; unfold Oper.quietAtIn; go_simp
  clear hKQ KQ
  simp only [Act.put, List.setIfInBounds_toArray, List.set_cons_zero, List.set_cons_succ]
  refine wpQuietIn_step (fun _ _ _ _ => trivial) (fun KQ hKQ => ?_)
  rw [if_pos (by rfl)]
  refine ⟨.string P1, fun Z hZ => ?_, hKQ _ ?_⟩
  · unfold Oper.quietAtIn; go_simp; exact callsIn_wide.2 (Calls.bel hZ (K1.out Z))
  clear hKQ KQ
  simp only [Act.put, List.setIfInBounds_toArray, List.set_cons_zero, List.set_cons_succ]
  refine wpQuietIn_step (fun _ _ _ _ => trivial) (fun KQ hKQ => ?_)
  rw [if_pos (by rfl)]
  refine ⟨.string (P0 ++ ⟨#[45]⟩ ++ P1), fun Z hZ => ?_, hKQ _ ?_⟩
  · unfold Oper.quietAtIn; go_simp; rw [if_neg (by omega)]; exact ⟨rfl, rfl⟩
  clear hKQ KQ
  simp only [Act.put, List.setIfInBounds_toArray, List.set_cons_zero, List.set_cons_succ]
  refine wpQuietIn_step (fun _ _ _ _ => trivial) (fun KQ hKQ => ?_)
  rw [if_pos (by rfl)]
  refine ⟨.string (P0 ++ ⟨#[45]⟩ ++ P1 ++ ⟨#[45]⟩), fun Z hZ => ?_, hKQ _ ?_⟩
  · unfold Oper.quietAtIn; go_simp; rw [if_neg (by omega)]; exact ⟨rfl, rfl⟩
  clear hKQ KQ
  simp only [Act.put, List.setIfInBounds_toArray, List.set_cons_zero, List.set_cons_succ]
  refine wpQuietIn_step (fun _ _ _ _ => trivial) (fun KQ hKQ => ?_)
  rw [if_pos (by rfl)]
  refine ⟨.pointer (some ⟨w.heap.size, 2, none⟩), fun Z hZ => ?_, hKQ _ ?_⟩
  · unfold Oper.quietAtIn; go_simp
  clear hKQ KQ
  simp only [Act.put, List.setIfInBounds_toArray, List.set_cons_zero, List.set_cons_succ]
  refine wpQuietIn_step (fun _ _ _ _ => trivial) (fun KQ hKQ => ?_)
  rw [if_pos (by rfl)]
  refine ⟨.int .i64 d, fun Z hZ => ?_, hKQ _ ?_⟩
  · have q0 := cell_below hZ (HQ.out 2 (by decide)); have qz := cell_lt q0; unfold Oper.quietAtIn; go_simp
  clear hKQ KQ
  simp only [Act.put, List.setIfInBounds_toArray, List.set_cons_zero, List.set_cons_succ]
  refine wpQuietIn_step (fun _ _ _ _ => trivial) (fun KQ hKQ => ?_)
  rw [if_pos (by rfl)]
  refine ⟨.string P2, fun Z hZ => ?_, hKQ _ ?_⟩
  · unfold Oper.quietAtIn; go_simp; exact callsIn_wide.2 (Calls.bel hZ (K2.out Z))
  clear hKQ KQ
  simp only [Act.put, List.setIfInBounds_toArray, List.set_cons_zero, List.set_cons_succ]
  refine wpQuietIn_step (fun _ _ _ _ => trivial) (fun KQ hKQ => ?_)
  rw [if_pos (by rfl)]
  refine ⟨.string (P0 ++ ⟨#[45]⟩ ++ P1 ++ ⟨#[45]⟩ ++ P2), fun Z hZ => ?_, hKQ _ ?_⟩
  · unfold Oper.quietAtIn; go_simp; rw [if_neg (by omega)]; exact ⟨rfl, rfl⟩
  clear hKQ KQ
  simp only [Act.put, List.setIfInBounds_toArray, List.set_cons_zero, List.set_cons_succ]
  refine wpQuietIn_step (fun _ _ _ _ => trivial) (fun KQ hKQ => ?_)
  rw [if_pos (by rfl)]
  refine ⟨.string (P0 ++ ⟨#[45]⟩ ++ P1 ++ ⟨#[45]⟩ ++ P2 ++ ⟨#[32]⟩), fun Z hZ => ?_, hKQ _ ?_⟩
  · unfold Oper.quietAtIn; go_simp; rw [if_neg (by omega)]; exact ⟨rfl, rfl⟩
  clear hKQ KQ
  simp only [Act.put, List.setIfInBounds_toArray, List.set_cons_zero, List.set_cons_succ]
  refine wpQuietIn_step (fun _ _ _ _ => trivial) (fun KQ hKQ => ?_)
  rw [if_pos (by rfl)]
  refine ⟨.pointer (some ⟨w.heap.size, 3, none⟩), fun Z hZ => ?_, hKQ _ ?_⟩
  · unfold Oper.quietAtIn; go_simp
  clear hKQ KQ
  simp only [Act.put, List.setIfInBounds_toArray, List.set_cons_zero, List.set_cons_succ]
  refine wpQuietIn_step (fun _ _ _ _ => trivial) (fun KQ hKQ => ?_)
  rw [if_pos (by rfl)]
  refine ⟨.int .i64 h, fun Z hZ => ?_, hKQ _ ?_⟩
  · have q0 := cell_below hZ (HQ.out 3 (by decide)); have qz := cell_lt q0; unfold Oper.quietAtIn; go_simp
  clear hKQ KQ
  simp only [Act.put, List.setIfInBounds_toArray, List.set_cons_zero, List.set_cons_succ]
  refine wpQuietIn_step (fun _ _ _ _ => trivial) (fun KQ hKQ => ?_)
  rw [if_pos (by rfl)]
  refine ⟨.string P3, fun Z hZ => ?_, hKQ _ ?_⟩
  · unfold Oper.quietAtIn; go_simp; exact callsIn_wide.2 (Calls.bel hZ (K3.out Z))
  clear hKQ KQ
  simp only [Act.put, List.setIfInBounds_toArray, List.set_cons_zero, List.set_cons_succ]
  refine wpQuietIn_step (fun _ _ _ _ => trivial) (fun KQ hKQ => ?_)
  rw [if_pos (by rfl)]
  refine ⟨.string (P0 ++ ⟨#[45]⟩ ++ P1 ++ ⟨#[45]⟩ ++ P2 ++ ⟨#[32]⟩ ++ P3), fun Z hZ => ?_, hKQ _ ?_⟩
  · unfold Oper.quietAtIn; go_simp; rw [if_neg (by omega)]; exact ⟨rfl, rfl⟩
  clear hKQ KQ
  simp only [Act.put, List.setIfInBounds_toArray, List.set_cons_zero, List.set_cons_succ]
  refine wpQuietIn_step (fun _ _ _ _ => trivial) (fun KQ hKQ => ?_)
  rw [if_pos (by rfl)]
  refine ⟨.string (P0 ++ ⟨#[45]⟩ ++ P1 ++ ⟨#[45]⟩ ++ P2 ++ ⟨#[32]⟩ ++ P3 ++ ⟨#[58]⟩), fun Z hZ => ?_, hKQ _ ?_⟩
  · unfold Oper.quietAtIn; go_simp; rw [if_neg (by omega)]; exact ⟨rfl, rfl⟩
  clear hKQ KQ
  simp only [Act.put, List.setIfInBounds_toArray, List.set_cons_zero, List.set_cons_succ]
  refine wpQuietIn_step (fun _ _ _ _ => trivial) (fun KQ hKQ => ?_)
  rw [if_pos (by rfl)]
  refine ⟨.pointer (some ⟨w.heap.size, 4, none⟩), fun Z hZ => ?_, hKQ _ ?_⟩
  · unfold Oper.quietAtIn; go_simp
  clear hKQ KQ
  simp only [Act.put, List.setIfInBounds_toArray, List.set_cons_zero, List.set_cons_succ]
  refine wpQuietIn_step (fun _ _ _ _ => trivial) (fun KQ hKQ => ?_)
  rw [if_pos (by rfl)]
  refine ⟨.int .i64 i, fun Z hZ => ?_, hKQ _ ?_⟩
  · have q0 := cell_below hZ (HQ.out 4 (by decide)); have qz := cell_lt q0; unfold Oper.quietAtIn; go_simp
  clear hKQ KQ
  simp only [Act.put, List.setIfInBounds_toArray, List.set_cons_zero, List.set_cons_succ]
  refine wpQuietIn_step (fun _ _ _ _ => trivial) (fun KQ hKQ => ?_)
  rw [if_pos (by rfl)]
  refine ⟨.string P4, fun Z hZ => ?_, hKQ _ ?_⟩
  · unfold Oper.quietAtIn; go_simp; exact callsIn_wide.2 (Calls.bel hZ (K4.out Z))
  clear hKQ KQ
  simp only [Act.put, List.setIfInBounds_toArray, List.set_cons_zero, List.set_cons_succ]
  refine wpQuietIn_step (fun _ _ _ _ => trivial) (fun KQ hKQ => ?_)
  rw [if_pos (by rfl)]
  refine ⟨.string (P0 ++ ⟨#[45]⟩ ++ P1 ++ ⟨#[45]⟩ ++ P2 ++ ⟨#[32]⟩ ++ P3 ++ ⟨#[58]⟩ ++ P4), fun Z hZ => ?_, hKQ _ ?_⟩
  · unfold Oper.quietAtIn; go_simp; rw [if_neg (by omega)]; exact ⟨rfl, rfl⟩
  clear hKQ KQ
  simp only [Act.put, List.setIfInBounds_toArray, List.set_cons_zero, List.set_cons_succ]
  refine wpQuietIn_step (fun _ _ _ _ => trivial) (fun KQ hKQ => ?_)
  rw [if_pos (by rfl)]
  refine ⟨.string (P0 ++ ⟨#[45]⟩ ++ P1 ++ ⟨#[45]⟩ ++ P2 ++ ⟨#[32]⟩ ++ P3 ++ ⟨#[58]⟩ ++ P4 ++ ⟨#[58]⟩), fun Z hZ => ?_, hKQ _ ?_⟩
  · unfold Oper.quietAtIn; go_simp; rw [if_neg (by omega)]; exact ⟨rfl, rfl⟩
  clear hKQ KQ
  simp only [Act.put, List.setIfInBounds_toArray, List.set_cons_zero, List.set_cons_succ]
  refine wpQuietIn_step (fun _ _ _ _ => trivial) (fun KQ hKQ => ?_)
  rw [if_pos (by rfl)]
  refine ⟨.pointer (some ⟨w.heap.size, 5, none⟩), fun Z hZ => ?_, hKQ _ ?_⟩
  · unfold Oper.quietAtIn; go_simp
  clear hKQ KQ
  simp only [Act.put, List.setIfInBounds_toArray, List.set_cons_zero, List.set_cons_succ]
  refine wpQuietIn_step (fun _ _ _ _ => trivial) (fun KQ hKQ => ?_)
  rw [if_pos (by rfl)]
  refine ⟨.int .i64 s, fun Z hZ => ?_, hKQ _ ?_⟩
  · have q0 := cell_below hZ (HQ.out 5 (by decide)); have qz := cell_lt q0; unfold Oper.quietAtIn; go_simp
  clear hKQ KQ
  simp only [Act.put, List.setIfInBounds_toArray, List.set_cons_zero, List.set_cons_succ]
  refine wpQuietIn_step (fun _ _ _ _ => trivial) (fun KQ hKQ => ?_)
  rw [if_pos (by rfl)]
  refine ⟨.string P5, fun Z hZ => ?_, hKQ _ ?_⟩
  · unfold Oper.quietAtIn; go_simp; exact callsIn_wide.2 (Calls.bel hZ (K5.out Z))
  clear hKQ KQ
  simp only [Act.put, List.setIfInBounds_toArray, List.set_cons_zero, List.set_cons_succ]
  refine wpQuietIn_step (fun _ _ _ _ => trivial) (fun KQ hKQ => ?_)
  rw [if_pos (by rfl)]
  refine ⟨.string (P0 ++ ⟨#[45]⟩ ++ P1 ++ ⟨#[45]⟩ ++ P2 ++ ⟨#[32]⟩ ++ P3 ++ ⟨#[58]⟩ ++ P4 ++ ⟨#[58]⟩ ++ P5), fun Z hZ => ?_, hKQ _ ?_⟩
  · unfold Oper.quietAtIn; go_simp; rw [if_neg (by omega)]; exact ⟨rfl, rfl⟩
  clear hKQ KQ
  simp only [Act.put, List.setIfInBounds_toArray, List.set_cons_zero, List.set_cons_succ]
  refine wpQuietIn_nil ?_
  intro Z hZ
  simp only [List.replicate_succ, List.replicate_zero, List.cons_append, List.nil_append]
  have HBZ := Lib.hid hZ
  clear hZ
  refine wpAnyIn_ready (rs := [28]) (by kernel_rfl) (by simp) (AllReadyIn.cons rfl (fun K' hKK => ?_) AllReadyIn.nil)
  go_simp
  refine hKK _ _ ?_
  clear hKK
  refine wpAnyIn_done (by kernel_rfl) ?_ _
  go_wp2_with fail
  go_ret
  exact ⟨rfl, bt A0.out HBZ.out⟩
end Go.Proofs.YtgnfaemnehmgcaaGreatDoor.Cal
