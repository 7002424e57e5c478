/- Layer 9 (calendar): reading a text (its parts). -/
import Derived.Test.YtgnfaemnehmgcaaGreatDoorQ23
import Derived.Lib.AtoiErrMem
namespace Go.Proofs.YtgnfaemnehmgcaaGreatDoor.Cal
open Go Go.RowKit
attribute [local go_sem] Oper.semAt_some
theorem fits_digit (c : Int) (w : World) (h : 48 ≤ c ∧ c ≤ 57) :
    Calls Tryz.prog 131 #[.int .u8 c, .int .u8 48] w fun e w' => e = .returned (.bool true) ∧ w = w' := by
  have h1 := h.1
  have h2 := h.2
  clear h
  go_enter Tryz.func131, Tryz.ntmps131
  go_wp2
  go_ret
  exact ⟨rfl, rfl⟩
theorem fits_sign (c : Int) (w : World) (h : ¬ c = 48) :
    Calls Tryz.prog 131 #[.int .u8 c, .int .u8 c] w fun e w' => e = .returned (.bool true) ∧ w = w' := by
  have hb : (c == 48) = false := by simpa using h
  go_enter Tryz.func131, Tryz.ntmps131
  go_wp2
  go_ret
  exact ⟨rfl, rfl⟩
/-- a byte fits the pattern's -/
def Fits (c p : Int) : Prop := (p = 48 ∧ 48 ≤ c ∧ c ≤ 57) ∨ (¬ p = 48 ∧ c = p)
theorem fits_any (c p : Int) (w : World) (h : Fits c p) :
    Calls Tryz.prog 131 #[.int .u8 c, .int .u8 p] w fun e w' => e = .returned (.bool true) ∧ w = w' := by
  rcases h with ⟨rfl, h⟩ | ⟨h, rfl⟩
  · exact fits_digit c w h
  · exact fits_sign c w h
set_option maxHeartbeats 1000000 in
theorem part_any (S : ByteArray) (i j : Nat) (n : Int) (a1 : Nat) (w : World) (hc : w.cell? ⟨a1, 0, none⟩ = some (.string S)) (hij : i ≤ j) (hj : j ≤ S.size) (hsz : S.size ≤ 1000) (h18 : j - i ≤ 18) (hn : Lib.atoi ((S.data.toList.drop i).take (j - i)) = some n) :
    Calls Tryz.prog 132 #[.int .i64 (i : Int), .int .i64 (j : Int), .pointer (some ⟨a1, 0, none⟩)] w fun e w' => e = .returned (.int .i64 n) ∧ Below w.heap.size w w' := by
  have zc := cell_lt hc
  have HA := Lib.hid (fun X => atoi_any (S.extract i j) n (by simp [ByteArray.size_extract]; omega) (by rw [Lib.extract_data]; exact hn) X)
  have h1 : (i : Int) ≤ j := by omega
  have h2 : (j : Int) ≤ S.size := by omega
  have h3 : i ≤ j := hij
  have h4 : j ≤ S.size := hj
  clear hn hij hj
  go_enter Tryz.func132, Tryz.ntmps132
  go_wp2_with (go_at_call 133; refine (HA.out _).mono ?_; rintro e w2 ⟨rfl, t, rfl⟩)
  go_ret
  exact ⟨rfl, Lib.bytesWorld_below _ _ _⟩
end Go.Proofs.YtgnfaemnehmgcaaGreatDoor.Cal
