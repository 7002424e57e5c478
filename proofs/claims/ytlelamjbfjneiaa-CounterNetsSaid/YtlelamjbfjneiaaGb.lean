/- The reference's Narrow, whatever it is asked. -/
import Derived.Test.YtlelamjbfjneiaaGa
namespace Go.Proofs.Ytlelamjbfjneiaa.Ct
open Go Go.RowKit Go.Shelf
attribute [local go_sem] Oper.semAt_some
/-- what the reference's Narrow hands back -/
def RNar (n : Nat) (l : List Bnd) (w : World) (e : Ending) (w' : World) : Prop :=
  ((narrowS n l).2 = false ∧ e = .returned (.tuple #[.slice none 0 0, .int .i64 12]) ∨
   (narrowS n l).2 = true ∧ ∃ g cap, e = .returned (.tuple #[.slice (some ⟨g, 0, none⟩) n cap, .int .i64 0]) ∧ RowsIn w' (fun i => rowR l i n) (fun _ => n) n g 0) ∧ Below w.heap.size w w'
theorem infoInts : (Try.prog.info? 52).map (fun i => (i.zero, i.size, i.bytes)) = some (some (.slice none 0 0), 1, 24) := by kernel_rfl
theorem rnarrow_err (n : Int) (l : List Bnd) (p : Option Addr) (cap : Nat) (w : World) (hl : l.length ≤ maxLen) (hs : BndsIn w l p) (he : netErr n l ≠ 0) :
    Calls Try.prog 8 #[.int .i64 n, .slice p l.length cap] w fun e w' => e = .returned (.tuple #[.slice none 0 0, .int .i64 (netErr n l)]) ∧ Below w.heap.size w w' := by
  have HC := Lib.hid (rchecked_any n l p cap w hl hs)
  generalize netErr n l = ne at *
  have hne : (ne != 0) = true := by simpa using he
  clear hs hl
  go_enter Try.func8, Try.ntmps8
  go_wp2_with (go_at_call 23; refine HC.out.mono ?_; rintro e w1 ⟨rfl, hb⟩; have HB := Lib.hid hb; clear hb)
  go_ret2
  exact ⟨rfl, HB.out⟩
theorem empty_row (X : World) : (X.alloc (.cells #[] 3)).ownsRow X.heap.size 3 1 (.slice (some ⟨X.heap.size, 0, none⟩) 0 0) 0 [] :=
  ⟨rfl, .inr ⟨X.heap.size, 0, #[], rfl, Nat.le_refl _, World.alloc_heap_new X _, Nat.le_refl _, Nat.zero_le _, rfl, rfl⟩⟩
/-- the row while it is filled -/
def filR (a b : Nat) : Nat → Int := fun i => if i < b ∧ i ≠ a then openI else 0
theorem filR_put (a b : Nat) (h : b ≠ a) : (fun i => if i = b then openI else filR a b i) = filR a (b + 1) := by
  funext i; unfold filR
  by_cases e : i = b
  · subst e; rw [if_pos rfl, if_pos ⟨by omega, h⟩]
  · rw [if_neg e]
    by_cases h2 : i < b ∧ i ≠ a
    · rw [if_pos h2, if_pos ⟨by omega, h2.2⟩]
    · rw [if_neg h2, if_neg (by omega)]
theorem filR_skip (a : Nat) : filR a a = filR a (a + 1) := by
  funext i; unfold filR
  by_cases h2 : i < a ∧ i ≠ a
  · rw [if_pos h2, if_pos ⟨by omega, h2.2⟩]
  · rw [if_neg h2, if_neg (by omega)]
set_option maxRecDepth 100000 in
set_option maxHeartbeats 16000000 in
theorem rnarrow_ok (n : Nat) (l : List Bnd) (p : Option Addr) (cap : Nat) (w : World) (hs : BndsIn w l p) (he : netErr n l = 0) :
    Calls Try.prog 8 #[.int .i64 n, .slice p l.length cap] w (RNar n l w) := by
  obtain ⟨hn, hlo⟩ := lims_of he
  have HC := Lib.hid (rchecked_any n l p cap w (by have := hlo.len; unfold maxLen; omega) hs)
  rw [he] at HC
  have HLO := Lib.hid hlo
  have HN := Lib.hid hn
  have HED := Lib.hid (edges_of hn.2 hlo)
  have HYES := Lib.hid (fun (h : (narrowS n l).2 = true) a (ha : a < n) => rows_yes hn hlo h ha ha)
  have HDG := Lib.hid (fun (h : (narrowS n l).2 = true) a (ha : a < n) => (narr_of hn.2 hlo h).diag a ha)
  have HNO := Lib.hid (fun (h : (narrowS n l).2 = false) => rows_no hn hlo h)
  have HS := Lib.hid hs
  have hop : openI = 100000000000000000 := rfl
  have HOP := Lib.hid hop
  obtain ⟨i0, hi0, hz0, hz1, hz2⟩ := info_parts infoInt
  obtain ⟨i1, hi1, hy0, hy1, hy2⟩ := info_parts infoInts
  unfold RNar
  clear hs he hn hlo hop
  go_enter Try.func8, Try.ntmps8
  go_wp2_with (go_at_call 23; refine HC.out.mono ?_; rintro e w1 ⟨rfl, hb⟩; have HB := Lib.hid hb; clear hb)
  clear HC
  generalize w1 = W1 at *
  go_loopw [4, 5, 8, 9, 10, 11, 12, 13, 14, 15] (fun s4 s5 s8 s9 s10 s11 s12 s13 s14 s15 wr => ∃ (a : Nat) (v v10 v11 v12 v13 v14 v15 : Value) (rv : Nat → Value), a ≤ n ∧ s4 = .slice none 0 0 ∧ s5 = .int .i64 0 ∧ v = s8 ∧ s9 = .int .i64 (a : Int) ∧ s10 = v10 ∧ s11 = v11 ∧ s12 = v12 ∧ s13 = v13 ∧ s14 = v14 ∧ s15 = v15 ∧ Hid (DAt w wr v l n a rv) ∧ Hid (∀ i, i < a → 0 ≤ rowR l i n i)) (fun _ _ _ i _ _ _ _ _ _ _ => n - (intOf i).toNat)
  case atStart => exact ⟨0, _, _, _, _, _, _, _, fun _ => .slice none 0 0, Nat.zero_le _, rfl, rfl, rfl, rfl, rfl, rfl, rfl, rfl, rfl, rfl, Lib.hid (DAt.nil l n _ HB.out), Lib.hid (fun i hi => absurd hi (Nat.not_lt_zero i))⟩
  case round =>
    clear HB
    obtain ⟨a, v, v10, v11, v12, v13, v14, v15, rv, ha, rfl, rfl, rfl, rfl, rfl, rfl, rfl, rfl, rfl, rfl, HD, HP⟩ := hrel
    by_cases hlt : a < n
    · have hai : (a : Int) < n := by omega
      have HA := Lib.hid hlt
      have va : IntKind.i64.wrap ((a : Int) + 1) = (a : Int) + 1 := IntWalk.i64_in _ (by have := HN.out; omega)
      clear hlt ha
      generalize hwr : wr = W2 at *
      clear hwr
      go_wp2_with (at_make; refine wpList_make_full _ rfl _ _ 52 rfl W2.heap.size 3 i0 (.int .i64 0) 1 Try.underlying52 hi0 hz0 hz1 .i64 .i64 _ _ n rfl rfl rfl rfl (by rw [hz2]; have := HN.out; omega) (by have := HN.out; unfold maxLen; omega) (Nat.le_refl _) ?_; intro w3 hown0 hgrow0)
      have hb3 : Below W2.heap.size W2 w3 := (Below.refl _ _).grown hgrow0 (Nat.le_refl _) (fun k hk => by cases hk)
      have HR0 : Hid (RowAt W2 w3 W2.heap.size n (filR a 0)) := Lib.hid (by
        rw [Nat.mul_one, show (Value.int .i64 0).cells = #[.int .i64 0] from rfl, toList_madeCells_one] at hown0
        refine ⟨fun i hi => ⟨?_, World.ownsRow.frozenAt hown0 i⟩, Nat.le_refl _, hb3⟩
        have := World.ownsRow.cells hown0 (g := W2.heap.size) rfl i (.int .i64 0) (by simp [hi])
        rw [add_plain, Nat.zero_add] at this
        rw [this]
        unfold filR
        rw [if_neg (by omega)])
      clear hown0 hgrow0 hb3
      generalize w3 = W3 at *
      generalize hg0 : W2.heap.size = g0 at HR0
      go_loopw [11] (fun s11 wr => ∃ (b : Nat), b ≤ n ∧ s11 = .int .i64 (b : Int) ∧ Hid (RowAt W2 wr g0 n (filR a b))) (fun i _ => n - (intOf i).toNat)
      case atStart => exact ⟨0, Nat.zero_le _, rfl, HR0⟩
      case round =>
        clear HR0
        obtain ⟨b, hb, rfl, HR⟩ := hrel
        by_cases hbl : b < n
        · have hbi : (b : Int) < n := by omega
          have HBL := Lib.hid hbl
          have vb : IntKind.i64.wrap ((b : Int) + 1) = (b : Int) + 1 := IntWalk.i64_in _ (by have := HN.out; omega)
          obtain ⟨x0, f0⟩ := HR.out.at_ b hbl
          have hz := cell_lt x0
          by_cases hba : b = a
          · subst hba
            have hne : ((b : Int) != b) = false := by simp
            clear hbl hb
            go_wp2_with fail
            go_roundw
            case rel => exact ⟨b + 1, HBL.out, by simp, Lib.hid (by rw [← filR_skip]; exact HR.out)⟩
            case measure => have := HBL.out; simp [intOf]; omega
          · have hne : ((a : Int) != b) = true := by simp; omega
            have HPUT := Lib.hid (show RowAt W2 (wr.setCell ⟨g0, b, none⟩ (.int .i64 100000000000000000)) g0 n (filR a (b + 1)) from by
              rw [← filR_put a b hba]; exact HR.out.put hbl openI)
            clear hbl hb hba
            generalize filR a b b = old at *
            go_wp2_with fail
            go_roundw
            case rel => exact ⟨b + 1, HBL.out, by simp, HPUT⟩
            case measure => have := HBL.out; simp [intOf]; omega
        · have hbi : ¬ (b : Int) < n := by omega
          obtain rfl : b = n := by omega
          have HR1 : Hid (RowAt W2 wr g0 b (rowR l a 0)) := Lib.hid (HR.out.congr fun i hi => by
            show _ = (if i = a then (0 : Int) else openI)
            unfold filR
            by_cases e : i = a
            · rw [if_neg (by omega), if_pos e]
            · rw [if_pos ⟨hi, e⟩, if_neg e])
          clear hbl hb HR
          go_wp2_with fail
          generalize hwr : wr = W4 at *
          clear hwr
          go_loopw [10, 12, 13, 14, 15] (fun s10 s12 s13 s14 s15 wr => ∃ (t g c : Nat) (v13 v14 v15 : Value), t ≤ b ∧ s10 = .slice (some ⟨g, 0, none⟩) b c ∧ s12 = .int .i64 (t : Int) ∧ s13 = v13 ∧ s14 = v14 ∧ s15 = v15 ∧ Hid (RowAt W2 wr g b (rowR l a t))) (fun _ i _ _ _ _ => b - (intOf i).toNat)
          case atStart => exact ⟨0, g0, _, _, _, _, Nat.zero_le _, rfl, rfl, rfl, rfl, rfl, HR1⟩
          case round =>
            clear HR1
            obtain ⟨t, g, c, v13, v14, v15, ht, rfl, rfl, rfl, rfl, rfl, HR⟩ := hrel
            by_cases htl : t < b
            · have hti : (t : Int) < b := by omega
              have HTL := Lib.hid htl
              have vt : IntKind.i64.wrap ((t : Int) + 1) = (t : Int) + 1 := IntWalk.i64_in _ (by have := HN.out; omega)
              have HT16 := Lib.hid (show t ≤ 16 by have := HN.out; have := HTL.out; omega)
              obtain ⟨rr, hrr⟩ : ∃ rr, rr = rowR l a t := ⟨_, rfl⟩
              have HRR := Lib.hid hrr
              rw [← hrr] at HR
              clear hrr htl ht
              generalize hwr : wr = W5 at *
              clear hwr
              have HCL := Lib.hid (fun j u (h : (seqV rr b)[j]? = some u) => show (W5.alloc (.cells #[] 3)).cell? ((⟨g, 0, none⟩ : Addr).add j) = some u from by
                unfold seqV at h
                rw [List.getElem?_map] at h
                obtain ⟨x, hx, rfl⟩ := Option.map_eq_some_iff.1 h
                obtain ⟨hj, rfl⟩ := List.getElem?_eq_some_iff.1 hx
                rw [add_plain, Nat.zero_add]
                have hjn : j < b := by simpa using hj
                have := cell_below (below_alloc (Below.refl W5.heap.size W5) (.cells #[] 3)) (HR.out.at_ j hjn).1
                simpa using this)
              have HEM := Lib.hid (empty_row W5)
              go_upto_region 19 with (at_builtin; refine wpList_append_own _ rfl _ _ 52 rfl W5.heap.size 3 i0 (.int .i64 0) 1 8 Try.underlying52 hi0 hz0 hz1 hz2 rfl (by decide) _ 0 [] rfl HEM.out ⟨g, 0, none⟩ b c (seqV rr b) rfl (by simp [seqV]) HCL.out (by intro u hu; obtain ⟨x, _, rfl⟩ := List.mem_map.1 hu; rfl) (by have := HN.out; unfold maxLen; omega) (by have := HN.out; omega) (by simp) ?_; intro vx wx hownx hgrowx _)
              have hbx : Below W5.heap.size W5 wx := (below_alloc (Below.refl W5.heap.size W5) (.cells #[] 3)).grown hgrowx (by simp) (fun k hk => by
                have e : (some W5.heap.size : Option Nat) = some k := hk
                cases e
                exact Nat.le_refl _)
              obtain ⟨g', c', hvx, hrow⟩ := RowAt.of_own (n := b) (f := rr) HN.out.1 (by simpa using hownx) hbx
              subst hvx
              have HNX := Lib.hid hrow
              clear hownx hgrowx hbx hrow HCL HEM
              generalize wx = W6 at *
              go_wp2_with fail
              go_loopw [14, 15] (fun s14 s15 wr => ∃ (k : Nat) (v15 : Value), k ≤ l.length ∧ s14 = .int .i64 (k : Int) ∧ s15 = v15 ∧ Hid (RowAt W5 wr g' b (nextR l rr k))) (fun i _ _ => l.length - (intOf i).toNat)
              case atStart => exact ⟨0, _, Nat.zero_le _, rfl, rfl, HNX⟩
              case round =>
                clear HNX
                obtain ⟨k, v15, hk, rfl, rfl, HX⟩ := hrel
                by_cases hkl : k < l.length
                · have hki : (k : Int) < l.length := by omega
                  have HK := Lib.hid hkl
                  have vk : IntKind.i64.wrap ((k : Int) + 1) = (k : Int) + 1 := IntWalk.i64_in _ (by have := HLO.out.len; omega)
                  have hok := HLO.out.ok k hkl
                  have HBD := Lib.hid (fun j => nextR_bd HED.out a t HT16.out (Nat.le_of_lt hkl) j)
                  rw [← HRR.out] at HBD
                  have HSX := Lib.hid (HS.out.below (HD.out.bel.trans ((HR.out.bel.trans (HX.out.bel.mono HR.out.bel.size)).mono HD.out.bel.size)))
                  obtain ⟨bb, bo, rfl, hcell⟩ := HSX.out.resolve_left (by omega)
                  obtain ⟨⟨y0, y1⟩, y2, y3⟩ := hcell k hkl
                  have HUS : Hid (nextR l rr (k + 1) = useR rr (useR rr (nextR l rr k) (limUp (bndAt l k))) (limDn (bndAt l k))) := Lib.hid rfl
                  obtain ⟨xk, hxk⟩ : ∃ xk, xk = bndAt l k := ⟨_, rfl⟩
                  rw [← hxk] at y0 y1 y2 y3 HUS hok
                  clear hcell hxk hkl hk HSX
                  obtain ⟨xa, xb, xlo, xhi⟩ := xk
                  obtain ⟨oka, okb, okn, oklo, okhi, -⟩ := hok
                  dsimp only at y0 y1 y2 y3 oka okb okn oklo okhi
                  obtain ⟨fa, rfl⟩ : ∃ fa : Nat, xa = (fa : Int) := ⟨xa.toNat, by omega⟩
                  obtain ⟨fb, rfl⟩ : ∃ fb : Nat, xb = (fb : Int) := ⟨xb.toNat, by omega⟩
                  have hfa : fa < b := by omega
                  have hfb : fb < b := by omega
                  have hfai : (fa : Int) < (b : Int) := by omega
                  have hfbi : (fb : Int) < (b : Int) := by omega
                  have hfa0 : (0 : Int) ≤ (fa : Int) := by omega
                  have hfb0 : (0 : Int) ≤ (fb : Int) := by omega
                  have HFN := Lib.hid (show fa ≠ fb from fun e => okn (by rw [e]))
                  have zy := cell_lt y0
                  obtain ⟨q, hq⟩ : ∃ q, q = nextR l rr k := ⟨_, rfl⟩
                  rw [← hq] at HX HUS HBD
                  have HUS2 : Hid (nextR l rr (k + 1) = (if rr fb < openI then lowR (if rr fa < openI then lowR q fb (rr fa + xhi) else q) fa (rr fb + -xlo) else (if rr fa < openI then lowR q fb (rr fa + xhi) else q))) := Lib.hid (by
                    rw [HUS.out]; unfold useR limUp limDn; simp only [Int.toNat_natCast])
                  clear hq HUS okn oka okb
                  generalize hwr : wr = W7 at *
                  clear hwr
                  go_upto_region 23 with fail
                  have hbv := below_alloc (Below.refl W7.heap.size W7) (.cells #[.int .i64 (fa : Int), .int .i64 (fb : Int), .int .i64 xlo, .int .i64 xhi] 45)
                  have HX8 := Lib.hid (HX.out.below hbv)
                  have HC8 : Hid (BndCells (W7.alloc (.cells #[.int .i64 (fa : Int), .int .i64 (fb : Int), .int .i64 xlo, .int .i64 xhi] 45)) W7.heap.size 0 ⟨(fa : Int), (fb : Int), xlo, xhi⟩) := Lib.hid ⟨⟨by simp, by simp⟩, by simp, by simp⟩
                  have HGN := Lib.hid (show g' ≠ W7.heap.size from fun e => by have := cell_lt (HX.out.at_ fa hfa).1; omega)
                  have HGG := Lib.hid (show g ≠ g' from fun e => by have := cell_lt (HR.out.at_ fa hfa).1; have := HX.out.ge; omega)
                  clear hbv y0 y1 y2 y3 zy HX
                  generalize W7.alloc (.cells #[.int .i64 (fa : Int), .int .i64 (fb : Int), .int .i64 xlo, .int .i64 xhi] 45) = W8 at *
                  generalize W7.heap.size = b15 at *
                  have HRA := Lib.hid (HBD.out fa)
                  have HRB := Lib.hid (HBD.out fb)
                  have ra := cell_below HX8.out.bel (HR.out.at_ fa hfa).1
                  have rb := cell_below HX8.out.bel (HR.out.at_ fb hfb).1
                  obtain ⟨ya, hya⟩ : ∃ ya, ya = rr fa := ⟨_, rfl⟩
                  obtain ⟨yb, hyb⟩ : ∃ yb, yb = rr fb := ⟨_, rfl⟩
                  have bda := HRA.out.2
                  have bdb := HRB.out.2
                  have hop := HOP.out
                  rw [← hya] at ra HUS2 bda
                  rw [← hyb] at rb HUS2 bdb
                  have ka : IntKind.i64.wrap (ya + xhi) = ya + xhi := IntWalk.i64_in _ (by omega)
                  have kb : IntKind.i64.wrap (yb - xlo) = yb - xlo := IntWalk.i64_in _ (by omega)
                  rw [hop] at HUS2
                  clear hya hyb bda bdb hop oklo okhi HRA HRB
                  obtain ⟨⟨y0, y1⟩, y2, y3⟩ := HC8.out
                  dsimp only at y0 y1 y2 y3
                  have zy := cell_lt y0
                  have zra := cell_lt ra
                  by_cases h1 : ya < 100000000000000000
                  · go_upto_region 24 with fail
                    obtain ⟨ofb, hofb⟩ : ∃ x, x = q fb := ⟨_, rfl⟩
                    obtain ⟨qc, qf⟩ := HX8.out.at_ fb hfb
                    rw [← hofb] at qc
                    have HLOW := Lib.hid (HX8.out.below (below_drewN (Below.refl W8.heap.size W8) 0))
                    obtain ⟨mn, hmn⟩ : ∃ x, x = min ofb (ya + xhi) := ⟨_, rfl⟩
                    have em : (if ya + xhi < ofb then ya + xhi else ofb) = mn := by rw [hmn]; split <;> omega
                    have HMN := Lib.hid hmn
                    have HOJ := Lib.hid hofb
                    clear hmn hofb
                    have zq := cell_lt qc
                    refine (wpIn_wide (n := 9)).1 ?_
                    refine wpIn_region_pre_lit 18 2 rfl (by kernel_rfl) (by kernel_rfl) (by kernel_rfl) (by kernel_rfl) rfl ?_
                    simp only [List.take_succ_cons, List.take_zero]
                    repeat (refine wpQuietIn_step (by first | exact fun _ _ _ _ => trivial | quiet_asked_in) (fun KQ hKQ => ?_); go_simp; first | (refine hKQ _ ?_; clear hKQ KQ) | (apply Exists.intro; refine ⟨fun _ => ?_, hKQ _ ?_⟩; (fail); clear hKQ KQ))
                    refine wpQuietIn_nil ?_
                    intro _ hwq1
                    obtain ⟨nq, hwq2⟩ := hwq1
                    subst hwq2
                    simp only [List.replicate_succ, List.replicate_zero, List.cons_append, List.nil_append]
                    refine wpAnyIn_ready (rs := [18]) (by kernel_rfl) (by simp) (AllReadyIn.cons rfl (fun K' hKK => ?_) AllReadyIn.nil)
                    go_simp
                    refine hKK _ _ ?_
                    clear hKK
                    refine wpAnyIn_ready (rs := [19]) (by kernel_rfl) (by simp) (AllReadyIn.cons rfl (fun K' hKK => ?_) AllReadyIn.nil)
                    go_simp
                    refine hKK _ _ ?_
                    clear hKK
                    refine wpAnyIn_done (by kernel_rfl) ?_ _
                    go_simp
                    have HZ1 : Hid (RowAt W5 ((W8.drewN nq).setCell ⟨g', fb, none⟩ (.int .i64 mn)) g' b (lowR q fb (ya + xhi))) := Lib.hid (by
                      have h := (HX8.out.below (below_drewN (Below.refl W8.heap.size W8) nq)).low hfb (ya + xhi)
                      rw [← HOJ.out, ← HMN.out] at h
                      exact h)
                    have HC9 : Hid (BndCells ((W8.drewN nq).setCell ⟨g', fb, none⟩ (.int .i64 mn)) b15 0 ⟨(fa : Int), (fb : Int), xlo, xhi⟩) := Lib.hid (BndCells.of (BndCells.of HC8.out (fun h => cell_below (below_drewN (Below.refl W8.heap.size W8) nq) h)) (fun h => by rw [World.cell?_setCell_far _ _ _ _ HGN.out]; exact h))
                    have hrb : ((W8.drewN nq).setCell ⟨g', fb, none⟩ (.int .i64 mn)).cell? ⟨g, fb, none⟩ = some (.int .i64 yb) := by
                      rw [World.cell?_setCell_far _ _ _ _ (Ne.symm HGG.out)]; exact cell_below (below_drewN (Below.refl W8.heap.size W8) nq) rb
                    clear ra rb y0 y1 y2 y3 zy zra qc qf zq em HLOW HC8 HX8 HMN HOJ
                    generalize (W8.drewN nq).setCell ⟨g', fb, none⟩ (.int .i64 mn) = W9 at *
                    rename_i aK K9
                    refine aK _ _ ?_
                    clear aK K9
                    obtain ⟨⟨y0, y1⟩, y2, y3⟩ := HC9.out
                    dsimp only at y0 y1 y2 y3
                    have zy := cell_lt y0
                    have rb := hrb
                    have zrb := cell_lt rb
                    clear hrb
                    obtain ⟨q1, hq1⟩ : ∃ x, x = lowR q fb (ya + xhi) := ⟨_, rfl⟩
                    rw [← hq1] at HZ1
                    have HQ1 := Lib.hid hq1
                    clear hq1
                    by_cases h2 : yb < 100000000000000000
                    · go_upto_region 26 with fail
                      obtain ⟨ofa, hofa⟩ : ∃ x, x = q1 fa := ⟨_, rfl⟩
                      obtain ⟨qc, qf⟩ := HZ1.out.at_ fa hfa
                      rw [← hofa] at qc
                      have HLOW := Lib.hid (HZ1.out.below (below_drewN (Below.refl W9.heap.size W9) 0))
                      obtain ⟨mn, hmn⟩ : ∃ x, x = min ofa (yb - xlo) := ⟨_, rfl⟩
                      have em : (if yb - xlo < ofa then yb - xlo else ofa) = mn := by rw [hmn]; split <;> omega
                      have HMN := Lib.hid hmn
                      have HOJ := Lib.hid hofa
                      clear hmn hofa
                      have zq := cell_lt qc
                      refine (wpIn_wide (n := 9)).1 ?_
                      refine wpIn_region_pre_lit 18 2 rfl (by kernel_rfl) (by kernel_rfl) (by kernel_rfl) (by kernel_rfl) rfl ?_
                      simp only [List.take_succ_cons, List.take_zero]
                      repeat (refine wpQuietIn_step (by first | exact fun _ _ _ _ => trivial | quiet_asked_in) (fun KQ hKQ => ?_); go_simp; first | (refine hKQ _ ?_; clear hKQ KQ) | (apply Exists.intro; refine ⟨fun _ => ?_, hKQ _ ?_⟩; (fail); clear hKQ KQ))
                      refine wpQuietIn_nil ?_
                      intro _ hwq1
                      obtain ⟨nq, hwq2⟩ := hwq1
                      subst hwq2
                      simp only [List.replicate_succ, List.replicate_zero, List.cons_append, List.nil_append]
                      refine wpAnyIn_ready (rs := [18]) (by kernel_rfl) (by simp) (AllReadyIn.cons rfl (fun K' hKK => ?_) AllReadyIn.nil)
                      go_simp
                      refine hKK _ _ ?_
                      clear hKK
                      refine wpAnyIn_ready (rs := [19]) (by kernel_rfl) (by simp) (AllReadyIn.cons rfl (fun K' hKK => ?_) AllReadyIn.nil)
                      go_simp
                      refine hKK _ _ ?_
                      clear hKK
                      refine wpAnyIn_done (by kernel_rfl) ?_ _
                      go_simp
                      have HZ2 : Hid (RowAt W5 ((W9.drewN nq).setCell ⟨g', fa, none⟩ (.int .i64 mn)) g' b (lowR q1 fa (yb - xlo))) := Lib.hid (by
                        have h := (HZ1.out.below (below_drewN (Below.refl W9.heap.size W9) nq)).low hfa (yb - xlo)
                        rw [← HOJ.out, ← HMN.out] at h
                        exact h)
                      clear rb y0 y1 y2 y3 zy zrb qc qf zq em HLOW
                      go_wp2_with fail
                      go_roundw
                      case rel => exact ⟨k + 1, _, HK.out, by simp, rfl, Lib.hid (by rw [HUS2.out, if_pos h2, if_pos h1, ← HQ1.out, show yb + -xlo = yb - xlo by omega]; exact HZ2.out)⟩
                      case measure => have := HK.out; simp [intOf]; omega
                    · go_wp2_with fail
                      go_roundw
                      case rel => exact ⟨k + 1, _, HK.out, by simp, rfl, Lib.hid (by rw [HUS2.out, if_neg h2, if_pos h1, ← HQ1.out]; exact HZ1.out)⟩
                      case measure => have := HK.out; simp [intOf]; omega
                  · by_cases h2 : yb < 100000000000000000
                    · go_upto_region 26 with fail
                      obtain ⟨ofa, hofa⟩ : ∃ x, x = q fa := ⟨_, rfl⟩
                      obtain ⟨qc, qf⟩ := HX8.out.at_ fa hfa
                      rw [← hofa] at qc
                      have HLOW := Lib.hid (HX8.out.below (below_drewN (Below.refl W8.heap.size W8) 0))
                      obtain ⟨mn, hmn⟩ : ∃ x, x = min ofa (yb - xlo) := ⟨_, rfl⟩
                      have em : (if yb - xlo < ofa then yb - xlo else ofa) = mn := by rw [hmn]; split <;> omega
                      have HMN := Lib.hid hmn
                      have HOJ := Lib.hid hofa
                      clear hmn hofa
                      have zq := cell_lt qc
                      refine (wpIn_wide (n := 9)).1 ?_
                      refine wpIn_region_pre_lit 18 2 rfl (by kernel_rfl) (by kernel_rfl) (by kernel_rfl) (by kernel_rfl) rfl ?_
                      simp only [List.take_succ_cons, List.take_zero]
                      repeat (refine wpQuietIn_step (by first | exact fun _ _ _ _ => trivial | quiet_asked_in) (fun KQ hKQ => ?_); go_simp; first | (refine hKQ _ ?_; clear hKQ KQ) | (apply Exists.intro; refine ⟨fun _ => ?_, hKQ _ ?_⟩; (fail); clear hKQ KQ))
                      refine wpQuietIn_nil ?_
                      intro _ hwq1
                      obtain ⟨nq, hwq2⟩ := hwq1
                      subst hwq2
                      simp only [List.replicate_succ, List.replicate_zero, List.cons_append, List.nil_append]
                      refine wpAnyIn_ready (rs := [18]) (by kernel_rfl) (by simp) (AllReadyIn.cons rfl (fun K' hKK => ?_) AllReadyIn.nil)
                      go_simp
                      refine hKK _ _ ?_
                      clear hKK
                      refine wpAnyIn_ready (rs := [19]) (by kernel_rfl) (by simp) (AllReadyIn.cons rfl (fun K' hKK => ?_) AllReadyIn.nil)
                      go_simp
                      refine hKK _ _ ?_
                      clear hKK
                      refine wpAnyIn_done (by kernel_rfl) ?_ _
                      go_simp
                      have HZ2 : Hid (RowAt W5 ((W8.drewN nq).setCell ⟨g', fa, none⟩ (.int .i64 mn)) g' b (lowR q fa (yb - xlo))) := Lib.hid (by
                        have h := (HX8.out.below (below_drewN (Below.refl W8.heap.size W8) nq)).low hfa (yb - xlo)
                        rw [← HOJ.out, ← HMN.out] at h
                        exact h)
                      clear ra rb y0 y1 y2 y3 zy zra qc qf zq em HLOW
                      go_wp2_with fail
                      go_roundw
                      case rel => exact ⟨k + 1, _, HK.out, by simp, rfl, Lib.hid (by rw [HUS2.out, if_pos h2, if_neg h1, show yb + -xlo = yb - xlo by omega]; exact HZ2.out)⟩
                      case measure => have := HK.out; simp [intOf]; omega
                    · go_wp2_with fail
                      go_roundw
                      case rel => exact ⟨k + 1, _, HK.out, by simp, rfl, Lib.hid (by rw [HUS2.out, if_neg h2, if_neg h1]; exact HX8.out)⟩
                      case measure => have := HK.out; simp [intOf]; omega
                · have hki : ¬ (k : Int) < l.length := by omega
                  obtain rfl : k = l.length := by omega
                  have HXN : Hid (RowAt W2 wr g' b (rowR l a (t + 1))) := Lib.hid ⟨by
                    have h : rowR l a (t + 1) = nextR l rr l.length := by rw [HRR.out]; rfl
                    rw [h]; exact HX.out.at_, Nat.le_trans HR.out.bel.size HX.out.ge, HR.out.bel.trans (HX.out.bel.mono HR.out.bel.size)⟩
                  clear hkl hk HX
                  go_wp2_with fail
                  go_roundw
                  case rel => exact ⟨t + 1, g', c', _, _, _, HTL.out, rfl, by simp, rfl, rfl, rfl, HXN⟩
                  case measure => have := HTL.out; simp [intOf]; omega
            · have hti : ¬ (t : Int) < b := by omega
              obtain rfl : t = b := by omega
              clear htl ht
              have HDX := Lib.hid (HD.out.below HR.out.bel)
              have ra := (HR.out.at_ a HA.out).1
              have zra := cell_lt ra
              obtain ⟨dg, hdg⟩ : ∃ x, x = rowR l a t a := ⟨_, rfl⟩
              rw [← hdg] at ra
              have HDGV := Lib.hid hdg
              clear hdg
              by_cases h0 : dg < 0
              · have HF : Hid ((narrowS t l).2 = false) := Lib.hid (by
                  cases hf : (narrowS t l).2 with
                  | false => rfl
                  | true =>
                    have e1 := HYES.out hf a HA.out
                    have e2 := HDG.out hf a HA.out
                    rw [← HDGV.out] at e1
                    omega)
                go_wp2_with fail
                go_ret2
                exact ⟨.inl ⟨HF.out, rfl⟩, HDX.out.bel⟩
              · have HPN : Hid (∀ i, i < a + 1 → 0 ≤ rowR l i t i) := Lib.hid fun i hi => by
                  by_cases e : i = a
                  · rw [e, ← HDGV.out]; omega
                  · exact HP.out i (by omega)
                have HVB := Lib.hid (show v.ownBlock ≠ some g from fun e => by have := (World.ownsRow.lt HD.out.own g e).2; have := HR.out.ge; omega)
                have HRC := Lib.hid (fun j (hj : j < t) => (HR.out.at_ j hj).1)
                generalize hwr : wr = W9 at *
                clear hwr
                go_upto_region 30 with fail
                clear ra zra
                go_wp2_with (at_builtin; refine wpList_append_own_at _ rfl (.tmp 117) (.tmp 119) _ rfl w.heap.size 52 i1 (.slice none 0 0) 1 24 Try.underlying27 hi1 hy0 hy1 hy2 rfl (by decide) _ a _ rfl (World.ownsRow.alloc HDX.out.own _) ⟨W9.heap.size, 0, none⟩ 1 1 [.slice (some ⟨g, 0, none⟩) t c] rfl rfl (cell_one_new _ _ _) (by simp [Value.oneCell']) (by have := HA.out; have := HN.out; unfold maxLen; omega) (by have := HA.out; have := HN.out; omega) (by have := HDX.out.bel.size; simp; omega) ?_; intro v' z1 hown hg _ hbk; have HD2 := Lib.hid (DAt.more (by have := HN.out; omega) HDX.out HRC.out HVB.out hown hg hbk); clear hown hg hbk)
                go_roundw
                case rel => exact ⟨a + 1, v', _, _, _, _, _, _, _, HA.out, rfl, rfl, rfl, by simp, rfl, rfl, rfl, rfl, rfl, rfl, HD2, HPN⟩
                case measure => have := HA.out; simp [intOf]; omega
    · have hai : ¬ (a : Int) < n := by omega
      obtain rfl : a = n := by omega
      clear hlt ha
      have HF : Hid ((narrowS a l).2 = true) := Lib.hid (by
        cases hf : (narrowS a l).2 with
        | true => rfl
        | false =>
          obtain ⟨i, hi, h⟩ := HNO.out hf
          have := HP.out i hi
          omega)
      have HBZ := Lib.hid HD.out.bel
      obtain ⟨g, cc, rfl, hrows⟩ := HD.out.in_ HN.out.1 (by have := HN.out; unfold maxLen; omega)
      have HRW := Lib.hid hrows
      clear hrows HD
      go_wp2_with fail
      go_ret2
      exact ⟨.inr ⟨HF.out, g, ⟨cc, rfl⟩, HRW.out⟩, HBZ.out⟩
end Go.Proofs.Ytlelamjbfjneiaa.Ct
