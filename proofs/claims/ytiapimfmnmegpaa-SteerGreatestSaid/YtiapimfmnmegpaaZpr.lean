/- Stage 6 (steer): Prove; the chart is proved; a law that is proved is meant for safe states. -/
import Derived.Test.YtiapimfmnmegpaaZpv
import Derived.Test.YtiapimfmnmegpaaZgm
namespace Go.Proofs.Ytiapimfmnmegpaa.St
open Go Go.RowKit Go.Shelf
attribute [local go_sem] Oper.semAt_some
theorem mea_st {l r s z : Int} (h : PlanOk l r s z) {f : Nat → Int} {k : Nat} (hk : k < (sizP l r).toNat) :
    meaP l r f (stE l r k) (stQ r k) = decide (f k < 1000) ∧ atP l r f (stE l r k) (stQ r k) = f k := by
  have hh : hasP l r (stE l r k) (stQ r k) = true := has_iff.2 (st_bd h h.siz.n hk)
  have he : (idxP l r (stE l r k) (stQ r k)).toNat = k := by rw [st_idx h]; rfl
  rw [mea_at hh, at_has hh, he]
  exact ⟨rfl, rfl⟩
theorem chart_proved {l r s z : Int} (h : PlanOk l r s z) : provP l r s z (chartF l r s z) (2 * z + 1).toNat (sizP l r).toNat = true :=
  prov_iff.2 fun k hk hf => by
    obtain ⟨e1, e2⟩ := mea_st h (f := chartF l r s z) hk
    have hm : meaP l r (chartF l r s z) (stE l r k) (stQ r k) = true := by rw [e1]; exact decide_eq_true hf
    have := chart_safe h hm
    rw [e2] at this
    unfold okL
    rw [this.1, this.2]
    rfl
theorem proved_safe {l r s z : Int} (h : PlanOk l r s z) {f : Nat → Int} (hp : provP l r s z f (2 * z + 1).toNat (sizP l r).toNat = true) {k : Nat} (hk : k < (sizP l r).toNat) (hf : f k < 1000) : chartF l r s z k < 1000 := by
  have hs := safe_max h (fun e q => meaP l r f e q = true) (fun e q hm => by
    have hh := mea_has hm
    refine ⟨hh, f (idxP l r e q).toNat, ?_⟩
    have hb := idx_bd h hh
    obtain ⟨e1, e2⟩ := st_of h hh
    rw [mea_at hh, decide_eq_true_eq] at hm
    have := prov_iff.1 hp _ (by omega) hm
    unfold okL at this
    rw [e1, e2, Bool.and_eq_true] at this
    exact ⟨this.1, fun d h1 h2 => (hld_iff h.siz.d).1 this.2 d h1 h2⟩) (stE l r k) (stQ r k) (by rw [(mea_st h hk).1]; exact decide_eq_true hf)
  rw [(mea_st h hk).1] at hs
  exact of_decide_eq_true hs
theorem Prove_ok {l r s z : Int} (hp : planB l r s z = true) (fn : Nat → Int) (b o c : Nat) (hc : (sizP l r).toNat ≤ c) (w : World) (hn : NumIn w fn (sizP l r).toNat (some ⟨b, o, none⟩)) :
    Calls Try.prog 20 #[.agg #[.int .i64 l, .int .i64 r, .int .i64 s, .int .i64 z], .slice (some ⟨b, o, none⟩) (sizP l r).toNat c] w fun e w' => e = .returned (.int .i64 (if provP l r s z fn (2 * z + 1).toNat (sizP l r).toNat = true then 0 else 7)) ∧ Below w.heap.size w w' := by
  have h := plan_ok hp
  have k1 : PlAt (w.alloc (.cells #[.int .i64 l, .int .i64 r, .int .i64 s, .int .i64 z] 27)) w.heap.size l r s z := World.alloc_heap_new w _
  have A0 := Lib.hid (below_alloc (Below.refl w.heap.size w) (.cells #[.int .i64 l, .int .i64 r, .int .i64 s, .int .i64 z] 27))
  have HC := Lib.hid (fun W => check_any l r s z W)
  rw [show planE l r s z = 0 by unfold planE; simp [hp]] at HC
  have HSZ := Lib.hid (fun W => size_any h W)
  have hN := h.siz.n
  have HPV := Lib.hid (fun W hW => isProved_any h fn b o (sizP l r).toNat c (2 * z + 1).toNat hN hc h.siz.d W hW)
  have HB := Lib.hid (siz_bd h)
  obtain ⟨V, hV⟩ : ∃ V, provP l r s z fn (2 * z + 1).toNat (sizP l r).toNat = V := ⟨_, rfl⟩
  rw [hV] at HPV ⊢
  rw [hN] at HSZ HB
  generalize (sizP l r).toNat = N at *
  clear h hp hV hN
  have HN := Lib.hid (fun (W : World) (hb : Below w.heap.size w W) => NumIn.below hn hb)
  clear hn
  have hN0 := HB.out
  go_enter Try.func20, Try.ntmps20
  go_upto_region 2 with (go_at_call 15; refine (HC.out _).mono ?_; rintro e w1 ⟨rfl, hb1⟩; have HB1 := Lib.hid hb1; have HP1 := Lib.hid (k1.below hb1); clear hb1 k1)
  obtain ⟨x0, x1, x2, x3⟩ := HP1.out.c
  have zx := cell_lt x0
  go_upto_region 6 with (go_at_call 37; refine (HSZ.out _).mono ?_; rintro e w2 ⟨rfl, hb2⟩; have HB2 := Lib.hid hb2; have HP2 := Lib.hid (HP1.out.below hb2); clear hb2 x0 x1 x2 x3 zx)
  have HB02 := Lib.hid (bt A0.out (bt HB1.out HB2.out))
  obtain ⟨x0, x1, x2, x3⟩ := HP2.out.c
  have zx := cell_lt x0
  cases V
  · go_wp2_with (go_at_call 38; refine (HPV.out _ (HN.out _ HB02.out)).mono ?_; rintro e w3 ⟨rfl, hb3⟩; have HB3 := Lib.hid hb3; clear hb3 x0 x1 x2 x3 zx)
    go_ret
    exact ⟨rfl, bt HB02.out HB3.out⟩
  · go_wp2_with (go_at_call 38; refine (HPV.out _ (HN.out _ HB02.out)).mono ?_; rintro e w3 ⟨rfl, hb3⟩; have HB3 := Lib.hid hb3; clear hb3 x0 x1 x2 x3 zx)
    go_ret
    exact ⟨rfl, bt HB02.out HB3.out⟩
end Go.Proofs.Ytiapimfmnmegpaa.St
