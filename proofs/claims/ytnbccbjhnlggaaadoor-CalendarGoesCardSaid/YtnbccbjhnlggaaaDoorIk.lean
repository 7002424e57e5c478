/- Layer 9 (calendar): six bytes as an argument; the tables that the row of CalendarGoes lists. -/
import Derived.Test.YtnbccbjhnlggaaaDoorDtabs
import Derived.Test.YtnbccbjhnlggaaaDoorEb
import Derived.Test.YtnbccbjhnlggaaaDoorFb
import Derived.Test.YtnbccbjhnlggaaaDoorId
import Derived.Stop.LaidErr
namespace Go.Proofs.YtnbccbjhnlggaaaDoor.Cal
open Go Go.RowKit Go.WideShapes Go.ChangeShapes Go.Deep Go.Joins
section
variable {H : Type} {enc : TypeId × Value → H} {w : World} {base : Nat} {spare : Nat → Bool} {held : Bool}
theorem cellsB6 : Tryd.prog.cellsOf 23 = 6 := by kernel_rfl
set_option maxRecDepth 100000 in
theorem open_six {r : Reach} {b0 : Nat} {v : Value} {d : DataW H} {q : List MemPlace} (hv : Value.okWide Tryd.prog w r b0 23 v) (h : DataW.Trod enc Tryd.prog w base spare held 23 v d q) :
    ∃ t0 t1 t2 t3 t4 t5 : Int, v = .agg #[.int .u8 t0, .int .u8 t1, .int .u8 t2, .int .u8 t3, .int .u8 t4, .int .u8 t5] ∧ (0 ≤ t0 ∧ t0 ≤ 255) ∧ (0 ≤ t1 ∧ t1 ≤ 255) ∧ (0 ≤ t2 ∧ t2 ≤ 255) ∧ (0 ≤ t3 ∧ t3 ≤ 255) ∧ (0 ≤ t4 ∧ t4 ≤ 255) ∧ (0 ≤ t5 ∧ t5 ≤ 255) := by
  simp only [Value.okWide, Tryd.underlying23] at hv
  obtain ⟨cs, rfl, hsz, _⟩ := hv
  obtain ⟨c0, c1, c2, c3, c4, c5, rfl⟩ := array6 (hsz.trans cellsB6)
  obtain ⟨fuel, hf⟩ := h
  obtain ⟨xs, m, _, _, _, hlen, hq⟩ := DataW.trod_array Tryd.underlying23 hf
  match xs, hlen with
  | [y0, y1, y2, y3, y4, y5], _ =>
    have u0 := hq 0 (by decide)
    have u1 := hq 1 (by decide)
    have u2 := hq 2 (by decide)
    have u3 := hq 3 (by decide)
    have u4 := hq 4 (by decide)
    have u5 := hq 5 (by decide)
    rw [cellsU8] at u0 u1 u2 u3 u4 u5
    simp only [Value.cells] at u0 u1 u2 u3 u4 u5
    obtain ⟨n0, e0, _, w0⟩ := DataW.trod_int Tryd.underlying5 (show _ = some y0 from u0)
    obtain ⟨n1, e1, _, w1⟩ := DataW.trod_int Tryd.underlying5 (show _ = some y1 from u1)
    obtain ⟨n2, e2, _, w2⟩ := DataW.trod_int Tryd.underlying5 (show _ = some y2 from u2)
    obtain ⟨n3, e3, _, w3⟩ := DataW.trod_int Tryd.underlying5 (show _ = some y3 from u3)
    obtain ⟨n4, e4, _, w4⟩ := DataW.trod_int Tryd.underlying5 (show _ = some y4 from u4)
    obtain ⟨n5, e5, _, w5⟩ := DataW.trod_int Tryd.underlying5 (show _ = some y5 from u5)
    obtain rfl : c0 = .int .u8 n0 := by simpa using e0
    obtain rfl : c1 = .int .u8 n1 := by simpa using e1
    obtain rfl : c2 = .int .u8 n2 := by simpa using e2
    obtain rfl : c3 = .int .u8 n3 := by simpa using e3
    obtain rfl : c4 = .int .u8 n4 := by simpa using e4
    obtain rfl : c5 = .int .u8 n5 := by simpa using e5
    exact ⟨n0, n1, n2, n3, n4, n5, rfl, wf_u8 w0, wf_u8 w1, wf_u8 w2, wf_u8 w3, wf_u8 w4, wf_u8 w5⟩
end
theorem wf_w16 {n : Int} (h : (Lit.int .u16 n).wf = true) : 0 ≤ n ∧ n ≤ 65535 := by
  simp only [Lit.wf, Bool.and_eq_true, decide_eq_true_eq] at h
  have h1 : IntKind.u16.min = 0 := by decide
  have h2 : IntKind.u16.max = 65535 := by decide
  omega
theorem cellsU64 : Tryd.prog.cellsOf 168 = 1 := by kernel_rfl
theorem cellsPow : Tryd.prog.cellsOf 192 = 20 := by kernel_rfl
theorem gPowT : (Tryd.prog.globals[3]?).map (·.type) = some 192 := by kernel_rfl
theorem powTab : (Rows.laid_internal_strconv_uint64pow10 : DataW Unit) = Lib.tabData .u64 Lib.pow10Tab := by rfl
theorem goes_laid {w : World} (h : laidMetH Tryd.prog Rows.calendarGoesRow.laid w) : Mon w ∧ Pow w := by
  change laidMet Tryd.prog [("math/bits.deBruijn32tab", Rows.laid_math_bits_deBruijn32tab), ("math/bits.deBruijn64tab", Rows.laid_math_bits_deBruijn64tab), ("internal/strconv.uint64pow10", Rows.laid_internal_strconv_uint64pow10), ("strconv.ErrRange", Rows.laid_strconv_ErrRange), ("strconv.ErrSyntax", Rows.laid_strconv_ErrSyntax), ("meridian/calendar.months", Rows.laid_meridian_calendar_months)] w at h
  have h2 := h.tail.tail
  have h5 := h2.tail.tail.tail
  rw [powTab] at h2
  exact ⟨mon_of h5, Lib.tabIs_of_head gPow gPowT Tryd.underlying192 Tryd.underlying168 cellsU64 cellsPow h2⟩
end Go.Proofs.YtnbccbjhnlggaaaDoor.Cal
