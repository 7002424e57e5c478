/- Contracts of layer 3: what hands back an iterator. -/
import Derived.Test.YtemblamamgfodaaGreatDoorStE
import Derived.Test.YtemblamamgfodaaGreatDoorStB
namespace Go.Proofs.YtemblamamgfodaaGreatDoor
open Go Go.RowKit Go.Shelf
theorem secL_cnt (l : List Int) (hp : phasesOk l = true) (m st k : Nat) : (secL l hp m st k).length = k := secL_len l hp m st k
theorem SerIn.blk {w : World} {l : List Int} {p : Option Addr} (h : SerIn w l p) (hn : l ≠ []) {k o : Nat} (hp : p = some ⟨k, o, none⟩) : k < w.heap.size := by
  rcases h.2 with h0 | ⟨b, o', hp', hi⟩
  · exact absurd (List.eq_nil_of_length_eq_zero h0) hn
  · rw [hp] at hp'
    cases hp'
    exact cell_lt (hi 0 (List.length_pos_iff.2 hn))
/-- a call hands back an iterator that gives xs -/
def Gives (w : World) (l : List Int) (p : Option Addr) (fn : FuncId) (args : Array Value) (gf : Nat) (xs : List SInt) : Prop :=
  Calls Tryz.prog fn args w fun e w1 => ∃ lb f, e = .returned (.func (.func gf) #[] lb) ∧ Below w.heap.size w w1 ∧
    (∀ k, f k → k < w1.heap.size ∧ (w.heap.size ≤ k ∨ (l ≠ [] ∧ ∃ o, p = some ⟨k, o, none⟩))) ∧
    ∀ n, 1 ≤ n → SeqStopsK Fence.wide n Tryz.prog gf lb (fun d : SInt => #[.int .i64 d.1]) (Stay f) (fun ys => ys = xs) (fun pre => pre <+: xs) xs.length w1
theorem gives_through {w w0 : World} {l : List Int} {p : Option Addr} {fn : FuncId} {args : Array Value} {gf : Nat} {xs : List SInt} (h : Gives w l p fn args gf xs) (hb : Below w0.heap.size w0 w) :
    Calls Tryz.prog fn args w fun e w1 => ∃ lb f, e = .returned (.func (.func gf) #[] lb) ∧ Below w0.heap.size w0 w1 ∧
    (∀ k, f k → k < w1.heap.size ∧ (w0.heap.size ≤ k ∨ (l ≠ [] ∧ ∃ o, p = some ⟨k, o, none⟩))) ∧
    ∀ n, 1 ≤ n → SeqStopsK Fence.wide n Tryz.prog gf lb (fun d : SInt => #[.int .i64 d.1]) (Stay f) (fun ys => ys = xs) (fun pre => pre <+: xs) xs.length w1 :=
  h.mono fun _ _ ⟨lb, f, he, h1, h2, h3⟩ => ⟨lb, f, he, hb.trans (h1.mono hb.size), fun k hk => ⟨(h2 k hk).1, (h2 k hk).2.imp (fun h => Nat.le_trans hb.size h) id⟩, h3⟩
set_option maxHeartbeats 1000000 in
theorem seconds_gives (tau : Int) (l : List Int) (p : Option Addr) (cap m st : Nat) (w : World) (hs : SerIn w l p) (hp : phasesOk l = true) (h128 : l.length ≤ 128) (hm : 1 ≤ m ∧ m ≤ 1000) (hst : 1 ≤ st ∧ st ≤ 1000) :
    Gives w l p 96 #[.agg #[.int .i64 tau, .slice p l.length cap], .int .i64 m, .int .i64 st] 141 (secL l hp m st (cntS l.length (2 * m) st)) := by
  have hB0 : Below w.heap.size w (((w.alloc (.cells #[.int .i64 tau, .slice p l.length cap] 56)).alloc (.cells #[.int .i64 m] 3)).alloc (.cells #[.int .i64 st] 3)) := below_alloc (below_alloc (below_alloc (Below.refl _ _) _) _) _
  have hS : SecIn (((w.alloc (.cells #[.int .i64 tau, .slice p l.length cap] 56)).alloc (.cells #[.int .i64 m] 3)).alloc (.cells #[.int .i64 st] 3)) (w.heap.size + 1) w.heap.size (w.heap.size + 2) m st l p cap :=
    ⟨by simp [go_sem], by simp [go_sem], by simp [go_sem], (hs.below hB0).2⟩
  have HS := Lib.hid hs
  have HB := Lib.hid hB0
  have HSS := Lib.hid hS
  clear hs hB0 hS
  unfold Gives
  go_enter Tryz.func96, Tryz.ntmps96
  go_wp2
  go_ret
  refine ⟨_, (fun k => (w.heap.size ≤ k ∧ k < w.heap.size + 3) ∨ (l ≠ [] ∧ ∃ o, p = some ⟨k, o, none⟩)), rfl, HB.out, ?_, ?_⟩
  · rintro k (⟨h1, h2⟩ | ⟨h1, o, h2⟩)
    · exact ⟨by simp; omega, .inl h1⟩
    · exact ⟨by have := HS.out.blk h1 h2; simp; omega, .inr ⟨h1, o, h2⟩⟩
  · intro n hn lp J Jx W hW hJ _ hY hJ0
    have ho : SecOk (fun k => (w.heap.size ≤ k ∧ k < w.heap.size + 3) ∨ (l ≠ [] ∧ ∃ o, p = some ⟨k, o, none⟩)) (w.heap.size + 1) w.heap.size (w.heap.size + 2) p l.length := by
      refine ⟨.inl (by omega), .inl (by omega), .inl (by omega), ?_⟩
      by_cases hl : l = []
      · exact .inl (by simp [hl])
      · exact .inr fun b o h => .inr ⟨hl, o, h⟩
    rw [secL_len] at hY
    exact seconds1_in n lp _ _ _ m st _ l p cap ho hp h128 hm hst hn J Jx W hY hJ (HSS.out.stay (Stay.of_below hW (fun k hk => by
      rcases hk with ⟨h1, h2⟩ | ⟨h1, o, h2⟩
      · simp; omega
      · have := HS.out.blk h1 h2; simp; omega)) ho) hJ0
set_option maxHeartbeats 1000000 in
theorem allan_gives (tau : Int) (l : List Int) (p : Option Addr) (cap m : Nat) (w : World) (hs : SerIn w l p) (hp : phasesOk l = true) (h128 : l.length ≤ 128) (hm : 1 ≤ m ∧ m ≤ 1000) :
    Gives w l p 95 #[.agg #[.int .i64 tau, .slice p l.length cap], .int .i64 m] 141 (secL l hp m m (cntS l.length (2 * m) m)) := by
  have a0 := below_alloc (Below.refl w.heap.size w) (.cells #[.int .i64 tau, .slice p l.length cap] 56)
  have HC := Lib.hid (gives_through (seconds_gives tau l p cap m m _ (hs.below a0) hp h128 hm hm) a0)
  clear hs a0
  unfold Gives
  go_enter Tryz.func95, Tryz.ntmps95
  go_wp2_with fail
  refine HC.out.mono ?_
  rintro e w1 ⟨lb, f, rfl, h1, h2, h3⟩
  have H1 := Lib.hid h1
  have H2 := Lib.hid h2
  have H3 := Lib.hid h3
  clear h1 h2 h3 HC
  go_wp2
  go_ret
  exact ⟨lb, f, rfl, H1.out, H2.out, H3.out⟩
set_option maxHeartbeats 1000000 in
theorem overlapping_gives (tau : Int) (l : List Int) (p : Option Addr) (cap m : Nat) (w : World) (hs : SerIn w l p) (hp : phasesOk l = true) (h128 : l.length ≤ 128) (hm : 1 ≤ m ∧ m ≤ 1000) :
    Gives w l p 97 #[.agg #[.int .i64 tau, .slice p l.length cap], .int .i64 m] 141 (secL l hp m 1 (cntS l.length (2 * m) 1)) := by
  have a0 := below_alloc (Below.refl w.heap.size w) (.cells #[.int .i64 tau, .slice p l.length cap] 56)
  have HC := Lib.hid (gives_through (seconds_gives tau l p cap m 1 _ (hs.below a0) hp h128 hm (by omega)) a0)
  clear hs a0
  unfold Gives
  go_enter Tryz.func97, Tryz.ntmps97
  go_wp2_with fail
  refine HC.out.mono ?_
  rintro e w1 ⟨lb, f, rfl, h1, h2, h3⟩
  have H1 := Lib.hid h1
  have H2 := Lib.hid h2
  have H3 := Lib.hid h3
  clear h1 h2 h3 HC
  go_wp2
  go_ret
  exact ⟨lb, f, rfl, H1.out, H2.out, H3.out⟩
def stepErr (tau : Int) (l : List Int) (m : Int) : Int := if checkSt tau l = 0 then (if 1 ≤ m ∧ m ≤ 32 then 0 else 1) else checkSt tau l
theorem stepErr_zero {tau : Int} {l : List Int} {m : Int} (h : stepErr tau l m = 0) : l.length ≤ 128 ∧ (1 ≤ tau ∧ tau ≤ 1000) ∧ phasesOk l = true ∧ 1 ≤ m ∧ m ≤ 32 := by
  unfold stepErr at h
  by_cases h0 : checkSt tau l = 0
  · rw [if_pos h0] at h
    obtain ⟨a, b, c⟩ := checkSt_zero h0
    refine ⟨a, b, c, ?_⟩
    by_cases h1 : 1 ≤ m ∧ m ≤ 32
    · exact h1
    · rw [if_neg h1] at h; omega
  · rw [if_neg h0] at h; exact absurd h h0
theorem checkStep_any (tau : Int) (l : List Int) (p : Option Addr) (cap : Nat) (m : Int) (w : World) (hs : SerIn w l p) :
    Calls Tryz.prog 103 #[.agg #[.int .i64 tau, .slice p l.length cap], .int .i64 m] w fun e w' => e = .returned (.int .i64 (stepErr tau l m)) ∧ Below w.heap.size w w' := by
  have a0 := below_alloc (Below.refl w.heap.size w) (.cells #[.int .i64 tau, .slice p l.length cap] 56)
  have HC := Lib.hid (check_any tau l p cap _ (hs.below a0))
  have A0 := Lib.hid a0
  have hfe : stepErr tau l m = if checkSt tau l = 0 then (if 1 ≤ m ∧ m ≤ 32 then 0 else 1) else checkSt tau l := rfl
  clear hs a0
  by_cases h0 : checkSt tau l = 0
  · rw [if_pos h0] at hfe
    by_cases h1 : 1 ≤ m ∧ m ≤ 32
    · rw [if_pos h1] at hfe
      have HE := Lib.hid hfe
      have H0 := Lib.hid h0
      clear hfe h0
      go_enter Tryz.func103, Tryz.ntmps103
      go_wp2_with fail
      refine HC.out.mono ?_
      rintro e w1 ⟨rfl, hb⟩
      rw [H0.out]
      have HB := Lib.hid (A0.out.trans (hb.mono A0.out.size))
      clear hb
      go_wp2_with (go_at_call 27; refine (within_yes _ _ _ _ h1).mono ?_; rintro e w2 ⟨rfl, rfl⟩)
      go_ret
      exact ⟨ret_i64 HE.out.symm, HB.out⟩
    · rw [if_neg h1] at hfe
      have HE := Lib.hid hfe
      have H0 := Lib.hid h0
      clear hfe h0
      go_enter Tryz.func103, Tryz.ntmps103
      go_wp2_with fail
      refine HC.out.mono ?_
      rintro e w1 ⟨rfl, hb⟩
      rw [H0.out]
      have HB := Lib.hid (A0.out.trans (hb.mono A0.out.size))
      clear hb
      go_wp2_with (go_at_call 27; refine (within_no _ _ _ _ h1).mono ?_; rintro e w2 ⟨rfl, rfl⟩)
      go_ret
      exact ⟨ret_i64 HE.out.symm, HB.out⟩
  · rw [if_neg h0] at hfe
    have HE := Lib.hid hfe
    have hne : (checkSt tau l != 0) = true := by simpa using h0
    clear hfe h0
    go_enter Tryz.func103, Tryz.ntmps103
    go_wp2_with fail
    refine HC.out.mono ?_
    rintro e w1 ⟨rfl, hb⟩
    have HB := Lib.hid (A0.out.trans (hb.mono A0.out.size))
    clear hb
    go_wp2
    go_ret
    exact ⟨ret_i64 HE.out.symm, HB.out⟩
end Go.Proofs.YtemblamamgfodaaGreatDoor
