/- Contracts of layer 2: Narrow. -/
import Derived.Test.YtlelamjbfjneiaaNg
namespace Go.Proofs.Ytlelamjbfjneiaa.Ct
open Go Go.RowKit Go.Shelf
theorem narrow_err (n : Int) (l : List Bnd) (p : Option Addr) (cap : Nat) (w : World) (hl : l.length ≤ maxLen) (hs : BndsIn w l p) (he : netErr n l ≠ 0) :
    Calls Try.prog 7 #[.int .i64 n, .slice p l.length cap] w fun e w' => e = .returned (.tuple #[.slice none 0 0, .int .i64 (netErr n l)]) ∧ Below w.heap.size w w' := by
  have HC := Lib.hid (checkNet_any n l p cap w hl hs)
  generalize netErr n l = ne at *
  have hne : (ne != 0) = true := by simpa using he
  clear hs hl
  go_enter Try.func7, Try.ntmps7
  go_wp2_with (go_at_call 21; refine HC.out.mono ?_; rintro e w1 ⟨rfl, hb⟩; have HB := Lib.hid hb; clear hb)
  go_ret2
  exact ⟨rfl, HB.out⟩
theorem narrow_no (n : Nat) (l : List Bnd) (p : Option Addr) (cap : Nat) (w : World) (hs : BndsIn w l p) (he : netErr n l = 0) (hc : calmAll n l = true) (h0 : (narrowS n l).2 = false) :
    Calls Try.prog 7 #[.int .i64 n, .slice p l.length cap] w fun e w' => e = .returned (.tuple #[.slice none 0 0, .int .i64 12]) ∧ Below w.heap.size w w' := by
  have HC := Lib.hid (checkNet_any n l p cap w (by have := (lims_of he).2.len; unfold maxLen; omega) hs)
  rw [he] at HC
  have HN := Lib.hid (fun W (hb : Below w.heap.size w W) => narrowest_any n l p cap W (hs.below hb) he hc)
  unfold NarRet at HN
  rw [h0] at HN
  clear hs he hc h0
  go_enter Try.func7, Try.ntmps7
  go_wp2_with (first | (go_at_call 21; refine HC.out.mono ?_; rintro e w1 ⟨rfl, hb⟩; have HB := Lib.hid hb; clear hb) | (go_at_call 22; refine (HN.out _ HB.out).mono ?_; rintro e w2 ⟨g, bs, rfl, hm⟩; have HM := Lib.hid hm.bel; clear hm))
  go_ret2
  exact ⟨rfl, HB.out.trans (HM.out.mono HB.out.size)⟩
/-- the narrowest matrix comes back -/
theorem narrow_ok (n : Nat) (l : List Bnd) (p : Option Addr) (cap : Nat) (w : World) (hs : BndsIn w l p) (he : netErr n l = 0) (hc : calmAll n l = true) (h0 : (narrowS n l).2 = true) :
    Calls Try.prog 7 #[.int .i64 n, .slice p l.length cap] w fun e w' => ∃ g bs, e = .returned (.tuple #[.slice (some ⟨g, 0, none⟩) n n, .int .i64 0]) ∧ MatAt w w' n g bs (narrowS n l).1 := by
  have HC := Lib.hid (checkNet_any n l p cap w (by have := (lims_of he).2.len; unfold maxLen; omega) hs)
  rw [he] at HC
  have HN := Lib.hid (fun W (hb : Below w.heap.size w W) => narrowest_any n l p cap W (hs.below hb) he hc)
  unfold NarRet at HN
  rw [h0] at HN
  clear hs he hc h0
  go_enter Try.func7, Try.ntmps7
  go_wp2_with (first | (go_at_call 21; refine HC.out.mono ?_; rintro e w1 ⟨rfl, hb⟩; have HB := Lib.hid hb; clear hb) | (go_at_call 22; refine (HN.out _ HB.out).mono ?_; rintro e w2 ⟨g, bs, rfl, hm⟩; have HM := Lib.hid hm; clear hm))
  go_ret2
  exact ⟨g, bs, rfl, HM.out.rows, HM.out.at_, HM.out.inj, HM.out.ne, fun i hi => Nat.le_trans HB.out.size (HM.out.ge i hi), HB.out.trans (HM.out.bel.mono HB.out.size)⟩
end Go.Proofs.Ytlelamjbfjneiaa.Ct
