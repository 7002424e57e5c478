/- Layer 9 (calendar): numbers of 8 bits as an argument; the end of a month. -/
import Derived.Test.YtklhepgpepfgjaaDoorQ19
import Derived.Test.YtklhepgpepfgjaaDoorQ15
import Derived.Test.YtklhepgpepfgjaaDoorQ05
namespace Go.Proofs.YtklhepgpepfgjaaDoor.Cal
open Go Go.RowKit Go.WideShapes Go.ChangeShapes Go.Deep Go.Joins
attribute [local go_sem] Oper.semAt_some
def ByIn (w : World) (g : Nat → Int) (n : Nat) (p : Option Addr) : Prop := n = 0 ∨ ∃ b o, p = some ⟨b, o, none⟩ ∧ ∀ i, i < n → w.cell? ⟨b, o + i, none⟩ = some (.int .u8 (g i)) ∧ 0 ≤ g i ∧ g i ≤ 255
theorem ByIn.below {w w' : World} {g : Nat → Int} {n : Nat} {p : Option Addr} (h : ByIn w g n p) (hb : Below w.heap.size w w') : ByIn w' g n p := h.imp id fun ⟨b, o, e, hi⟩ => ⟨b, o, e, fun i hl => ⟨cell_below hb (hi i hl).1, (hi i hl).2⟩⟩
theorem wf_u8 {n : Int} (h : (Lit.int .u8 n).wf = true) : 0 ≤ n ∧ n ≤ 255 := by
  simp only [Lit.wf, Bool.and_eq_true, decide_eq_true_eq] at h
  have h1 : IntKind.u8.min = 0 := by decide
  have h2 : IntKind.u8.max = 255 := by decide
  omega
section
variable {H : Type} {enc : TypeId × Value → H} {w : World} {base : Nat} {spare : Nat → Bool} {held : Bool}
theorem cellsU8 : Tryd.prog.cellsOf 5 = 1 := by kernel_rfl
set_option maxRecDepth 100000 in
theorem open_bytes {r : Reach} {b0 : Nat} {v : Value} {d : DataW H} {q : List MemPlace} (hv : Value.okWide Tryd.prog w r b0 32 v) (h : DataW.Trod enc Tryd.prog w base spare held 32 v d q) :
    ∃ (g : Nat → Int) (n c : Nat) (p : Option Addr), v = .slice p n c ∧ n ≤ maxLen ∧ ByIn w g n p := by
  obtain ⟨p, n, cap, rfl⟩ := okWide_slice Tryd.underlying32 hv
  obtain ⟨fuel, hf⟩ := h
  rcases open_slice Tryd.underlying32 hf with ⟨hcs, _⟩ | ⟨a, len, cap', m, n', D, Pl, hcs, _, hl, hm, hmm, _, hx⟩
  · simp [Value.cells] at hcs
    obtain ⟨rfl, rfl, rfl⟩ := hcs
    exact ⟨fun _ => 0, 0, 0, none, rfl, by simp [maxLen], .inl rfl⟩
  · simp [Value.cells] at hcs
    obtain ⟨rfl, rfl, rfl⟩ := hcs
    have hlt : ∀ i, i < n → i < m := fun i hi => by rw [hmm]; split <;> omega
    have cell : ∀ i, i < n → ∃ x : Int, w.cell? (a.add i) = some (.int .u8 x) ∧ (0 ≤ x ∧ x ≤ 255) := by
      intro i hi
      obtain ⟨cs', hc, ht'⟩ := hx i (hlt i hi)
      obtain ⟨x, rfl, _, hw⟩ := DataW.trod_int Tryd.underlying5 ht'
      rw [cellsU8, Nat.mul_one] at hc
      obtain ⟨_, _, hat⟩ := World.cells?_some hc
      have := hat 0 (by decide)
      refine ⟨x, ?_, wf_u8 hw⟩
      simpa [Addr.add] using this
    rcases Nat.eq_zero_or_pos n with h0 | h0
    · subst h0
      exact ⟨fun _ => 0, 0, cap, some a, rfl, by simp [maxLen], .inl rfl⟩
    · obtain ⟨x0, hv0, -⟩ := cell 0 h0
      obtain ⟨b, o, spot⟩ := a
      have hs : spot = none := by simpa [Addr.add] using World.cell?_spot hv0
      subst hs
      have cell2 : ∀ i, i < n → ∃ x : Int, w.cell? ⟨b, o + i, none⟩ = some (.int .u8 x) ∧ 0 ≤ x ∧ x ≤ 255 := by
        intro i hi
        obtain ⟨y, q0, q1⟩ := cell i hi
        rw [add_plain] at q0
        exact ⟨y, q0, q1⟩
      refine ⟨fun i => if h : i < n then (cell2 i h).choose else 0, n, cap, _, rfl, by omega, .inr ⟨b, o, rfl, fun i hi => ?_⟩⟩
      simp only [dif_pos hi]
      exact (cell2 i hi).choose_spec
end
theorem mE_bd {n : Nat} (h : n < 1536) : 41317 ≤ mE n ∧ mE n ≤ 88068 := (mE_civ h).n_bd
set_option maxRecDepth 4000 in
theorem monthEnd_any (n : Nat) (w : World) (hw : Mon w) (h : n < 1000) :
    Calls Tryd.prog 31 #[.int .i64 (n : Int)] w fun e w' => e = .returned (.int .i64 (mE n)) ∧ w = w' := by
  have hd : IsDate (1972 + (((n + 1) / 12 : Nat) : Int)) ((n + 1) % 12 + 1) 1 := ⟨by omega, by omega, by omega, by omega, by omega, by have := dm_bd (1972 + (((n + 1) / 12 : Nat) : Int)) (((n + 1) % 12 + 1 : Nat) : Int); omega⟩
  have HD := Lib.hid (Day_ok w hw hd)
  have hm := mE_day n
  have hb := mE_bd (n := n) (by omega)
  have k1 : IntKind.i64.wrap ((n : Int) + 1) = (n : Int) + 1 := IntWalk.i64_in _ (by omega)
  have q1 : ((n : Int) + 1).tdiv 12 = (((n + 1) / 12 : Nat) : Int) := by rw [Int.tdiv_eq_ediv_of_nonneg (by omega)]; omega
  have k2 : IntKind.i64.wrap (((n : Int) + 1).tdiv 12) = (((n + 1) / 12 : Nat) : Int) := by rw [q1]; exact IntWalk.i64_in _ (by omega)
  have k4 : IntKind.i64.wrap (1972 + (((n + 1) / 12 : Nat) : Int)) = 1972 + (((n + 1) / 12 : Nat) : Int) := IntWalk.i64_in _ (by omega)
  have k6 : IntKind.i64.wrap (dayN (1972 + (((n + 1) / 12 : Nat) : Int)) ((n + 1) % 12 + 1) 1 - 1) = dayN (1972 + (((n + 1) / 12 : Nat) : Int)) ((n + 1) % 12 + 1) 1 - 1 := IntWalk.i64_in _ (by omega)
  have HM := Lib.hid hm
  have e5 : (((n + 1) % 12 + 1 : Nat) : Int) = ((n : Int) + 1) % 12 + 1 := by omega
  rw [e5] at HD
  clear hd hm hb hw q1 e5
  generalize dayN (1972 + (((n + 1) / 12 : Nat) : Int)) ((n + 1) % 12 + 1) 1 = dn at *
  generalize (n + 1) / 12 = yn at *
  go_enter Tryd.func31, Tryd.ntmps31
  go_wp2_with (go_at_call 16; refine HD.out.mono ?_; rintro e w' ⟨rfl, rfl⟩)
  go_ret
  exact ⟨ret_i64 HM.out, rfl⟩
end Go.Proofs.YtklhepgpepfgjaaDoor.Cal
