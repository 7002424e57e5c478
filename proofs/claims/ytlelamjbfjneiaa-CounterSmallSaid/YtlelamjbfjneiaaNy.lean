/- Contracts of layer 2: Contradict. -/
import Derived.Test.YtlelamjbfjneiaaNu
namespace Go.Proofs.Ytlelamjbfjneiaa.Ct
open Go Go.RowKit Go.Shelf
theorem contradict_err (n : Int) (l : List Bnd) (p : Option Addr) (cap : Nat) (w : World) (hl : l.length ≤ maxLen) (hs : BndsIn w l p) (he : netErr n l ≠ 0) :
    Calls Try.prog 13 #[.int .i64 n, .slice p l.length cap] w fun e w' => e = .returned (.tuple #[.slice none 0 0, .int .i64 (netErr n l)]) ∧ Below w.heap.size w w' := by
  have HC := Lib.hid (checkNet_any n l p cap w hl hs)
  generalize netErr n l = ne at *
  have hne : (ne != 0) = true := by simpa using he
  clear hs hl
  go_enter Try.func13, Try.ntmps13
  go_wp2_with (go_at_call 21; refine HC.out.mono ?_; rintro e w1 ⟨rfl, hb⟩; have HB := Lib.hid hb; clear hb)
  go_ret2
  exact ⟨rfl, HB.out⟩
/-- what Contradict hands back -/
def ConAns (n : Nat) (l : List Bnd) (w : World) (e : Ending) (w' : World) : Prop := (∃ u p cap, e = .returned (.tuple #[.slice p u.length cap, .int .i64 (if u.length = 0 then 4 else 0)]) ∧ UsesIn w' u p ∧ ConOf n l u ∧ u.length ≤ cap ∧ cap ≤ maxLen) ∧ Below w.heap.size w w'
theorem contradict_any (n : Nat) (l : List Bnd) (p : Option Addr) (cap : Nat) (w : World) (hs : BndsIn w l p) (he : netErr n l = 0) :
    Calls Try.prog 13 #[.int .i64 n, .slice p l.length cap] w (ConAns n l w) := by
  obtain ⟨hn, hl⟩ := lims_of he
  have HC := Lib.hid (checkNet_any n l p cap w (by have := hl.len; unfold maxLen; omega) hs)
  rw [he] at HC
  have HN := Lib.hid (fun W (hb : Below w.heap.size w W) => contradiction_any n l p cap W hn hl (hs.below hb))
  clear hs he hl
  go_enter Try.func13, Try.ntmps13
  go_upto_region 5 with (first | (go_at_call 21; refine HC.out.mono ?_; rintro e w1 ⟨rfl, hb⟩; have HB := Lib.hid hb; clear hb) | (go_at_call 27; refine (HN.out _ HB.out).mono ?_; rintro e w2 ⟨⟨u, p', cap', rfl, hu, hc, hcap⟩, hb⟩; have HCAP := Lib.hid hcap; have HM := Lib.hid hb; have HU := Lib.hid hu; have HK := Lib.hid hc; clear hb hu hc hcap))
  have HBM := Lib.hid (HB.out.trans (HM.out.mono HB.out.size))
  by_cases h0 : u.length = 0
  · have hi : (u.length : Int) = 0 := by omega
    have H0 := Lib.hid h0
    clear h0
    go_wp2_with fail
    go_ret2
    exact ⟨⟨[], none, 0, rfl, .inl rfl, by rw [← List.length_eq_zero_iff.1 H0.out]; exact HK.out, Nat.le_refl _, by decide⟩, HBM.out⟩
  · have hi : ¬ (u.length : Int) = 0 := by omega
    have H0 := Lib.hid h0
    clear h0
    go_wp2_with fail
    go_ret2
    exact ⟨⟨u, p', cap', by rw [if_neg H0.out]; rfl, HU.out, HK.out, HCAP.out⟩, HBM.out⟩
end Go.Proofs.Ytlelamjbfjneiaa.Ct
