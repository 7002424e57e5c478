/- Layer 2: the law's bounds, made of the reference's. -/
import Derived.Test.YtlelamjbfjneiaaBn
namespace Go.Proofs.Ytlelamjbfjneiaa.Ct
open Go Go.RowKit Go.Shelf
def BoRet (l : List Bnd) (w : World) (e : Ending) (w' : World) : Prop := (∃ p' cap', e = .returned (.slice p' l.length cap') ∧ BndsIn w' l p') ∧ Below w.heap.size w w'
set_option maxRecDepth 100000 in
set_option maxHeartbeats 4000000 in
theorem bounds_any (l : List Bnd) (p : Option Addr) (cap : Nat) (w : World) (hl : l.length ≤ 40) (hs : BndsIn w l p) :
    Calls Try.prog 6 #[.slice p l.length cap] w (BoRet l w) := by
  obtain ⟨i0, hi0, hz0, hz1, hz2⟩ := info_parts infoBound
  have HS := Lib.hid hs
  have H0 : Hid (BoAt w w (.slice none 0 0) l 0) := Lib.hid ⟨World.ownsRow_nil _ _ _ _, Below.refl _ _⟩
  clear hs
  go_enter Try.func6, Try.ntmps6
  go_wp2_with fail
  go_loopw [3, 4] (fun s3 s4 wx => ∃ (k : Nat) (v : Value), k ≤ l.length ∧ s3 = v ∧ s4 = .int .i64 (k : Int) ∧ Hid (BoAt w wx v l k)) (fun _ s4 _ => l.length - (intOf s4).toNat)
  case atStart => exact ⟨0, _, Nat.zero_le _, rfl, rfl, H0⟩
  case round =>
    obtain ⟨k, v, hk, rfl, rfl, HB⟩ := hrel
    by_cases hlt : k < l.length
    · have hki : (k : Int) < l.length := by omega
      have HK := Lib.hid hlt
      obtain ⟨b, o, rfl, hi⟩ := (HS.out.below HB.out.bel).resolve_left (by omega)
      obtain ⟨⟨x0, x1⟩, x2, x3⟩ := hi k hlt
      have zx := cell_lt x0
      have w1 : IntKind.i64.wrap ((k : Int) + 1) = (k : Int) + 1 := IntWalk.i64_in _ (by omega)
      clear hi hlt
      go_wp2_with (at_builtin; refine wpList_append_own_at _ rfl (.tmp 11) (.tmp 16) _ rfl w.heap.size 46 i0 (.agg #[.int .i64 0, .int .i64 0, .int .i64 0, .int .i64 0]) 4 32 Try.underlying25 hi0 hz0 hz1 hz2 rfl (by decide) _ k _ rfl (World.ownsRow.alloc HB.out.own _) ⟨wr.heap.size, 0, none⟩ 1 1 [.int .i64 (bndAt l k).a, .int .i64 (bndAt l k).b, .int .i64 (bndAt l k).lo, .int .i64 (bndAt l k).hi] rfl rfl (four_new _ _ _ _ _ _) (by simp [Value.oneCell']) (by unfold maxLen; omega) (by omega) (by have := HB.out.bel.size; simp; omega) ?_; intro v' z1 hown hg _ _; have HB2 := Lib.hid (HB.out.more hown hg); clear hown hg)
      go_roundw
      case rel => exact ⟨k + 1, v', HK.out, rfl, by simp, HB2⟩
      case measure => have := HK.out; simp [intOf]; omega
    · obtain rfl : k = l.length := by omega
      have hki : ¬ ((l.length : Int) < l.length) := by omega
      obtain ⟨p', cap', rfl, hb⟩ := HB.out.in_
      have HI := Lib.hid hb
      clear hb
      go_wp2_with fail
      go_ret
      exact ⟨⟨p', cap', rfl, HI.out⟩, HB.out.bel⟩
end Go.Proofs.Ytlelamjbfjneiaa.Ct
