/- The walk over the law StabilityExchanged. -/
import Derived.Test.YtbkcjhmemfndbaaTri
import Derived.Test.YtbkcjhmemfndbaaAw
import Derived.Test.YtbkcjhmemfndbaaPa
namespace Go.Proofs.Ytbkcjhmemfndbaa
open Go Go.RowKit Go.Shelf
def shL (s : Int) (l : List Int) : List Int := l.map (fun x => x + s)
theorem take_snoc (l : List Int) (n k : Nat) (h : k < n) (hn : n ≤ l.length) : (l.take n).take (k + 1) = (l.take n).take k ++ [atL l k] := by
  have hk : k < (l.take n).length := by simp; omega
  rw [List.take_succ_eq_append_getElem hk, List.getElem_take, atL_get l k (by omega)]
theorem I16In.cell {w : World} {l : List Int} {b o cap : Nat} (h : I16In w l (some ⟨b, o, none⟩) cap) (k : Nat) (hk : k < l.length) : w.cell? ⟨b, o + k, none⟩ = some (.int .i16 (atL l k)) := by
  rcases h.at_ with h0 | ⟨b', o', hp, hc⟩
  · omega
  · cases hp
    rw [← atL_get l k hk]; exact hc k hk
theorem negL_snoc (l : List Int) (x : Int) : negL (l ++ [x]) = negL l ++ [-x] := by simp [negL]
theorem shL_snoc (s : Int) (l : List Int) (x : Int) : shL s (l ++ [x]) = shL s l ++ [x + s] := by simp [shL]
theorem shL_len (s : Int) (l : List Int) : (shL s l).length = l.length := by simp [shL]
structure Ints3 (X : World) (s : Int) (P : List Int) (b1 b2 b3 : Nat) : Prop where
  x : IntsAt X P b1 0
  n : IntsAt X (negL P) b2 0
  m : IntsAt X (shL s P) b3 0
theorem Ints3.below {X Y : World} {s : Int} {P : List Int} {b1 b2 b3 : Nat} (h : Ints3 X s P b1 b2 b3) (hb : Below X.heap.size X Y) : Ints3 Y s P b1 b2 b3 := ⟨h.x.below hb, h.n.below hb, h.m.below hb⟩
def exNum (p q : List Int) : Int := lowN (cg (p ++ q) p.length (sumL p)) (cs (p.length + q.length) p.length)
def exDen (p q : List Int) : Int := lowD (cg (p ++ q) p.length (sumL p)) (cs (p.length + q.length) p.length)
def ExRet (p q : List Int) (X : World) (e : Ending) (Y : World) : Prop := ∃ a b : Int, e = .returned (.tuple #[.agg #[.int .i64 a, .int .i64 b], .int .i64 0]) ∧ Hid (a = exNum p q ∧ b = exDen p q) ∧ Below X.heap.size X Y
theorem exchange_named (p q : List Int) (bp bq cp cq : Nat) (X : World) (h1 : 1 ≤ p.length) (h2 : 1 ≤ q.length) (h16 : p.length + q.length ≤ 16) (hp : IntsAt X p bp 0) (hq : IntsAt X q bq 0)
    (hP : ∀ x ∈ p ++ q, -1000000000000 ≤ x ∧ x ≤ 1000000000000) :
    Calls Try.prog 30 #[.slice (some ⟨bp, 0, none⟩) p.length cp, .slice (some ⟨bq, 0, none⟩) q.length cq] X (ExRet p q X) :=
  (Exchange_ok bp 0 cp bq 0 cq p q X h1 h2 h16 hp hq (atL_all (P := fun x => -1000000000000 ≤ x ∧ x ≤ 1000000000000) (by decide) hP)).mono fun _ _ ⟨e, hb⟩ =>
    ⟨_, _, e, Lib.hid ⟨by rw [exN_eq, exS_eq0]; rfl, by rw [exN_eq, exS_eq0]; rfl⟩, hb⟩
theorem cs_add_comm (a b : Nat) : cs (a + b) a = cs (b + a) b := by
  rw [cs_compl (a + b) a (by omega), show a + b - a = b by omega, Nat.add_comm]
theorem cs_pos : ∀ n k : Nat, k ≤ n → 1 ≤ cs n k
  | n, 0, _ => by rw [cs_zero]; decide
  | n + 1, k + 1, h => by
    have h1 := cs_pos n k (by omega)
    have h2 := cg_nn (List.replicate n 0) (k + 1) 0
    have h3 := cg_le (List.replicate n 0) (k + 1) 0
    rw [List.length_replicate] at h3
    show 1 ≤ cs n k + cs n (k + 1)
    omega
theorem cs_le16 (n k : Nat) (h : n ≤ 16) : cs n k ≤ 65536 := by
  have := exS_bd (len := n) (left := k) h
  rwa [exS_eq] at this
/-- what the law asks of the four answers -/
structure ExLaw (a b c d : Int) : Prop where
  a1 : 1 ≤ a
  ab : a ≤ b
  b1 : b ≤ 65536
  c0 : 0 ≤ c ∧ c ≤ 65536
  d0 : 1 ≤ d ∧ d ≤ 65536
  sum : b * d ≤ a * d + c * b
theorem ex_law (p q : List Int) (s : Int) (h16 : p.length + q.length ≤ 16) :
    (exNum (negL q) (negL p) = exNum p q ∧ exDen (negL q) (negL p) = exDen p q) ∧ (exNum (shL s p) (shL s q) = exNum p q ∧ exDen (shL s p) (shL s q) = exDen p q) ∧
    ExLaw (exNum p q) (exDen p q) (exNum (negL p) (negL q)) (exDen (negL p) (negL q)) := by
  have hpos := cs_pos (p.length + q.length) p.length (by omega)
  have hle := cs_le16 (p.length + q.length) p.length h16
  have hself := cg_self p q
  have hcg := cg_le (p ++ q) p.length (sumL p)
  rw [List.length_append] at hcg
  have hn0 := cg_nn (negL p ++ negL q) p.length (-sumL p)
  have hn1 := cg_le (negL p ++ negL q) p.length (-sumL p)
  rw [List.length_append, negL_len, negL_len] at hn1
  have hless := ex_less p q
  refine ⟨?_, ?_, ?_⟩
  · unfold exNum exDen
    rw [negL_len, negL_len, sumL_neg, ex_up, cs_add_comm q.length p.length]
    exact ⟨rfl, rfl⟩
  · have e : sumL (shL s p) = sumL p + p.length * s := sumL_shift s p
    unfold exNum exDen
    rw [shL_len, shL_len, e]
    unfold shL
    rw [ex_moved]
    exact ⟨rfl, rfl⟩
  · unfold exNum exDen
    rw [negL_len, negL_len, sumL_neg]
    have l1 := low_one _ _ hself hcg
    have l2 := low_le (cg (p ++ q) p.length (sumL p)) (cs (p.length + q.length) p.length) (by omega) hpos
    have l3 := low_le (cg (negL p ++ negL q) p.length (-sumL p)) (cs (p.length + q.length) p.length) hn0 hpos
    exact ⟨l1.1, l1.2, by omega, by omega, by omega, low_sum _ _ _ hpos hless⟩
theorem small_all {P Q : List Int} (hP : ∀ x ∈ P, -70000 ≤ x ∧ x ≤ 70000) (hQ : ∀ x ∈ Q, -70000 ≤ x ∧ x ≤ 70000) : ∀ x ∈ P ++ Q, -1000000000000 ≤ x ∧ x ≤ 1000000000000 := by
  intro x hx
  rcases List.mem_append.1 hx with h | h
  · have := hP x h; omega
  · have := hQ x h; omega
structure Small3 (s : Int) (P : List Int) : Prop where
  x : ∀ x ∈ P, -70000 ≤ x ∧ x ≤ 70000
  n : ∀ x ∈ negL P, -70000 ≤ x ∧ x ≤ 70000
  m : ∀ x ∈ shL s P, -70000 ≤ x ∧ x ≤ 70000
theorem small_of {w : World} {l : List Int} {p : Option Addr} {cap : Nat} (h : I16In w l p cap) (s : Int) (hs : -32768 ≤ s ∧ s ≤ 32767) (n : Nat) : Small3 s (l.take n) := by
  have hx : ∀ x ∈ l.take n, -32768 ≤ x ∧ x ≤ 32767 := fun x hx => by
    obtain ⟨i, hi, rfl⟩ := List.getElem_of_mem (List.mem_of_mem_take hx)
    rw [atL_get]; exact h.bd i
  refine ⟨fun x h => by have := hx x h; omega, fun x h => ?_, fun x h => ?_⟩
  · obtain ⟨y, hy, rfl⟩ := List.mem_map.1 h
    have := hx y hy; omega
  · obtain ⟨y, hy, rfl⟩ := List.mem_map.1 h
    have := hx y hy; omega
set_option maxRecDepth 100000 in
set_option maxHeartbeats 4000000 in
theorem exchanged_main (la lb : List Int) (ba oa bb ob ca cb : Nat) (s : Int) (w : World) (ha : I16In w la (some ⟨ba, oa, none⟩) ca) (hb : I16In w lb (some ⟨bb, ob, none⟩) cb) (h1 : 1 ≤ la.length) (h2 : 1 ≤ lb.length) (hs : -32768 ≤ s ∧ s ≤ 32767) :
    Calls Try.prog 11 #[.slice (some ⟨ba, oa, none⟩) la.length ca, .slice (some ⟨bb, ob, none⟩) lb.length cb, .int .i16 s] w fun e w' => e = .returned (.bool true) ∧ Below w.heap.size w w' := by
  have hla := ha.len
  have hlb := hb.len
  unfold maxLen at hla hlb
  have hca := ha.cap
  have hcb := hb.cap
  obtain ⟨na, hna⟩ : ∃ n : Nat, n = min la.length 6 := ⟨_, rfl⟩
  obtain ⟨nb, hnb⟩ : ∃ n : Nat, n = min lb.length 6 := ⟨_, rfl⟩
  have ea : min (la.length : Int) 6 = (na : Int) := by omega
  have eb : min (lb.length : Int) 6 = (nb : Int) := by omega
  have qa : (na : Int) ≤ (ca : Int) := by omega
  have qb : (nb : Int) ≤ (cb : Int) := by omega
  have qa' : na ≤ ca := by omega
  have qb' : nb ≤ cb := by omega
  have HNA := Lib.hid hna
  have HNB := Lib.hid hnb
  clear hna hnb
  obtain ⟨i0, hi0, hz0, hz1, hz2⟩ := info_parts infoInt
  have HA := Lib.hid ha
  have HB := Lib.hid hb
  have n1 : 1 ≤ na := by omega
  have n2 : 1 ≤ nb := by omega
  have e1 : ((na : Int) == 0) = false := beq_eq_false_iff_ne.2 (by omega)
  have e2 : ((nb : Int) == 0) = false := beq_eq_false_iff_ne.2 (by omega)
  clear ha hb hla hlb hca hcb
  go_enter Try.func11, Try.ntmps11
  go_wp2
  go_quiet (fail)
  have hw0 := below_drewN (Below.refl w.heap.size w) nq
  have HA0 := Lib.hid (HA.out.below hw0)
  have HB0 := Lib.hid (HB.out.below hw0)
  have HW0 := Lib.hid hw0
  clear hw0 HA HB ea eb qa qb qa' qb'
  generalize w.drewN nq = W0 at *
  go_wp2
  clear e1 e2
  have hn6 : na ≤ 6 := by have := HNA.out; omega
  have hn6' : nb ≤ 6 := by have := HNB.out; omega
  go_loopw [9, 12, 13, 48] (fun v1 v2 v3 i wr => ∃ k : Nat, k ≤ na ∧ i = .int .i64 (k : Int) ∧ Hid (Three W0 wr v1 v2 v3 ((la.take na).take k) (negL ((la.take na).take k)) (shL s ((la.take na).take k)))) (fun _ _ _ i _ => na - (intOf i).toNat)
  case atStart => exact ⟨0, Nat.zero_le _, rfl, Lib.hid (Three.start W0)⟩
  case round =>
    obtain ⟨k, hk, rfl, HT⟩ := hrel
    by_cases hlt : k < na
    · have hkl : (k : Int) < (na : Int) := by omega
      have hla : na ≤ la.length := by have := HNA.out; omega
      have x0 := cell_below HT.out.bel (HA0.out.cell k (by omega))
      have hbd := HA0.out.bd k
      have HTK := Lib.hid (take_snoc la na k hlt hla)
      have hlen : ((la.take na).take k).length = k := by simp; omega
      have hlen2 : (negL ((la.take na).take k)).length = k := by simp [negL]; omega
      have hlen3 : (shL s ((la.take na).take k)).length = k := by simp [shL]; omega
      have wx : IntKind.i64.wrap (atL la k) = atL la k := IntWalk.i64_in _ (by omega)
      have ws : IntKind.i64.wrap s = s := IntWalk.i64_in _ (by omega)
      have wn : IntKind.i64.wrap (-atL la k) = -atL la k := IntWalk.i64_in _ (by omega)
      have wa : IntKind.i64.wrap (atL la k + s) = atL la k + s := IntWalk.i64_in _ (by omega)
      go_wp2_with (first |
        (at_builtin; refine wpList_append_own_at _ rfl (.tmp 52) (.tmp 55) _ rfl W0.heap.size 3 i0 (.int .i64 0) 1 8 Try.underlying22 hi0 hz0 hz1 hz2 rfl (by decide) _ _ _ rfl (HT.out.o1.alloc _) ⟨wr.heap.size, 0, none⟩ 1 1 [.int .i64 (atL la k)] rfl rfl (cell_one_new _ _ _) (by simp [Value.oneCell']) (by rw [hlen]; unfold maxLen; omega) (by rw [hlen]; omega) (by have := HT.out.bel.size; simp; omega) ?_; intro t1 z1 hown hg _ hb; have HT1 := Lib.hid (HT.out.step hown hg hb); clear hown hg hb) |
        (at_builtin; refine wpList_append_own_at _ rfl (.tmp 57) (.tmp 61) _ rfl W0.heap.size 3 i0 (.int .i64 0) 1 8 Try.underlying22 hi0 hz0 hz1 hz2 rfl (by decide) _ _ _ rfl (HT1.out.rot.o1.alloc _) ⟨z1.heap.size, 0, none⟩ 1 1 [.int .i64 (-atL la k)] rfl rfl (cell_one_new _ _ _) (by simp [Value.oneCell']) (by rw [hlen2]; unfold maxLen; omega) (by rw [hlen2]; omega) (by have := HT1.out.rot.bel.size; simp; omega) ?_; intro t2 z2 hown hg _ hb; have HT2 := Lib.hid (HT1.out.rot.step hown hg hb); clear hown hg hb) |
        (at_builtin; refine wpList_append_own_at _ rfl (.tmp 63) (.tmp 69) _ rfl W0.heap.size 3 i0 (.int .i64 0) 1 8 Try.underlying22 hi0 hz0 hz1 hz2 rfl (by decide) _ _ _ rfl (HT2.out.rot.o1.alloc _) ⟨z2.heap.size, 0, none⟩ 1 1 [.int .i64 (atL la k + s)] rfl rfl (cell_one_new _ _ _) (by simp [Value.oneCell']) (by rw [hlen3]; unfold maxLen; omega) (by rw [hlen3]; omega) (by have := HT2.out.rot.bel.size; simp; omega) ?_; intro t3 z3 hown hg _ hb; have HT3 := Lib.hid (HT2.out.rot.step hown hg hb); clear hown hg hb))
      have HT4 := HT3.out.rot
      rw [← negL_snoc, ← shL_snoc, ← HTK.out] at HT4
      go_roundw
      case rel => exact ⟨k + 1, by omega, by go_num, Lib.hid HT4⟩
      case measure => simp [intOf]; omega
    · obtain rfl : k = na := by omega
      have hla : k ≤ la.length := by have := HNA.out; omega
      have HT0 := HT.out
      rw [List.take_take, Nat.min_self] at HT0
      have HSA := Lib.hid (small_of HA0.out s hs k)
      obtain ⟨P, hP⟩ : ∃ P, P = la.take k := ⟨_, rfl⟩
      rw [← hP] at HT0 HSA
      have hPl : P.length = k := by rw [hP]; simp; omega
      obtain ⟨g1, c1, rfl, j1⟩ := HT0.o1.ints (by omega)
      obtain ⟨g2, c2, rfl, j2⟩ := HT0.o2.ints (by rw [negL_len]; omega)
      obtain ⟨g3, c3, rfl, j3⟩ := HT0.o3.ints (by rw [shL_len]; omega)
      have HP0 := Lib.hid (show Ints3 wr s P g1 g2 g3 from ⟨j1, j2, j3⟩)
      have HB1 := Lib.hid (HB0.out.below HT0.bel)
      have HW1 := Lib.hid (HW0.out.trans (HT0.bel.mono HW0.out.size))
      have HPL := Lib.hid hPl
      clear HT HT0 j1 j2 j3 HB0 HA0 hP hPl
      generalize wr = W1 at *
      have hlb : nb ≤ lb.length := by have := HNB.out; omega
      go_wp2
      go_loopw [10, 11, 14, 74] (fun v1 v2 v3 i wr => ∃ q : Nat, q ≤ nb ∧ i = .int .i64 (q : Int) ∧ Hid (Three W1 wr v1 v2 v3 ((lb.take nb).take q) (negL ((lb.take nb).take q)) (shL s ((lb.take nb).take q)))) (fun _ _ _ i _ => nb - (intOf i).toNat)
      case atStart => exact ⟨0, Nat.zero_le _, rfl, Lib.hid (Three.start W1)⟩
      case round =>
        obtain ⟨q, hq, rfl, HT⟩ := hrel
        by_cases hqlt : q < nb
        · have hkl : (q : Int) < (nb : Int) := by omega
          have x0 := cell_below HT.out.bel (HB1.out.cell q (by omega))
          have hbd := HB1.out.bd q
          have HTK := Lib.hid (take_snoc lb nb q hqlt hlb)
          have hlen : ((lb.take nb).take q).length = q := by simp; omega
          have hlen2 : (negL ((lb.take nb).take q)).length = q := by simp [negL]; omega
          have hlen3 : (shL s ((lb.take nb).take q)).length = q := by simp [shL]; omega
          have wx : IntKind.i64.wrap (atL lb q) = atL lb q := IntWalk.i64_in _ (by omega)
          have ws : IntKind.i64.wrap s = s := IntWalk.i64_in _ (by omega)
          have wn : IntKind.i64.wrap (-atL lb q) = -atL lb q := IntWalk.i64_in _ (by omega)
          have wa : IntKind.i64.wrap (atL lb q + s) = atL lb q + s := IntWalk.i64_in _ (by omega)
          go_wp2_with (first |
            (at_builtin; refine wpList_append_own_at _ rfl (.tmp 78) (.tmp 81) _ rfl W1.heap.size 3 i0 (.int .i64 0) 1 8 Try.underlying22 hi0 hz0 hz1 hz2 rfl (by decide) _ _ _ rfl (HT.out.o1.alloc _) ⟨wr.heap.size, 0, none⟩ 1 1 [.int .i64 (atL lb q)] rfl rfl (cell_one_new _ _ _) (by simp [Value.oneCell']) (by rw [hlen]; unfold maxLen; omega) (by rw [hlen]; omega) (by have := HT.out.bel.size; simp; omega) ?_; intro t1 z1 hown hg _ hb; have HT1 := Lib.hid (HT.out.step hown hg hb); clear hown hg hb) |
            (at_builtin; refine wpList_append_own_at _ rfl (.tmp 83) (.tmp 87) _ rfl W1.heap.size 3 i0 (.int .i64 0) 1 8 Try.underlying22 hi0 hz0 hz1 hz2 rfl (by decide) _ _ _ rfl (HT1.out.rot.o1.alloc _) ⟨z1.heap.size, 0, none⟩ 1 1 [.int .i64 (-atL lb q)] rfl rfl (cell_one_new _ _ _) (by simp [Value.oneCell']) (by rw [hlen2]; unfold maxLen; omega) (by rw [hlen2]; omega) (by have := HT1.out.rot.bel.size; simp; omega) ?_; intro t2 z2 hown hg _ hb; have HT2 := Lib.hid (HT1.out.rot.step hown hg hb); clear hown hg hb) |
            (at_builtin; refine wpList_append_own_at _ rfl (.tmp 89) (.tmp 95) _ rfl W1.heap.size 3 i0 (.int .i64 0) 1 8 Try.underlying22 hi0 hz0 hz1 hz2 rfl (by decide) _ _ _ rfl (HT2.out.rot.o1.alloc _) ⟨z2.heap.size, 0, none⟩ 1 1 [.int .i64 (atL lb q + s)] rfl rfl (cell_one_new _ _ _) (by simp [Value.oneCell']) (by rw [hlen3]; unfold maxLen; omega) (by rw [hlen3]; omega) (by have := HT2.out.rot.bel.size; simp; omega) ?_; intro t3 z3 hown hg _ hb; have HT3 := Lib.hid (HT2.out.rot.step hown hg hb); clear hown hg hb))
          have HT4 := HT3.out.rot
          rw [← negL_snoc, ← shL_snoc, ← HTK.out] at HT4
          go_roundw
          case rel => exact ⟨q + 1, by omega, by go_num, Lib.hid HT4⟩
          case measure => simp [intOf]; omega
        · obtain rfl : q = nb := by omega
          have HT0 := HT.out
          rw [List.take_take, Nat.min_self] at HT0
          have HSB := Lib.hid (small_of HB1.out s hs q)
          obtain ⟨Q, hQ⟩ : ∃ Q, Q = lb.take q := ⟨_, rfl⟩
          rw [← hQ] at HT0 HSB
          have hQl : Q.length = q := by rw [hQ]; simp; omega
          obtain ⟨f1, d1, rfl, j1⟩ := HT0.o1.ints (by omega)
          obtain ⟨f2, d2, rfl, j2⟩ := HT0.o2.ints (by rw [negL_len]; omega)
          obtain ⟨f3, d3, rfl, j3⟩ := HT0.o3.ints (by rw [shL_len]; omega)
          have HQ0 := Lib.hid (show Ints3 wr s Q f1 f2 f3 from ⟨j1, j2, j3⟩)
          have HP1 := Lib.hid (HP0.out.below HT0.bel)
          have HW2 := Lib.hid (HW1.out.trans (HT0.bel.mono HW1.out.size))
          have hpl := HPL.out
          have h16 : P.length + Q.length ≤ 16 := by omega
          have hp1 : 1 ≤ P.length := by omega
          have hq1 : 1 ≤ Q.length := by omega
          have HLAW := Lib.hid (ex_law P Q s h16)
          have H16 := Lib.hid (show (P.length + Q.length ≤ 16 ∧ 1 ≤ P.length) ∧ 1 ≤ Q.length from ⟨⟨h16, hp1⟩, hq1⟩)
          clear HT HT0 j1 j2 j3 HB1 HP0 HW1 hQ hQl hpl h16 hp1 hq1 HPL
          generalize wr = X0 at *
          go_wp2_with fail
          refine (exchange_named P Q g1 f1 c1 d1 X0 H16.out.1.2 H16.out.2 H16.out.1.1 HP1.out.x HQ0.out.x (small_all HSA.out.x HSB.out.x)).mono ?_
          rintro e y1 ⟨a1, b1, rfl, HE1, hb⟩
          have HW3 := Lib.hid (below_alloc (HW2.out.trans (hb.mono HW2.out.size)) (.cells #[.int .i64 a1, .int .i64 b1] 28))
          have hbx := hb.trans ((below_alloc (Below.refl y1.heap.size y1) (.cells #[.int .i64 a1, .int .i64 b1] 28)).mono hb.size)
          have HP2 := Lib.hid (HP1.out.below hbx)
          have HQ2 := Lib.hid (HQ0.out.below hbx)
          have HD1 := Lib.hid (two_new y1 a1 b1 28)
          clear hb hbx HW2 HP1 HQ0
          go_wp2_with fail
          generalize y1.alloc (.cells #[.int .i64 a1, .int .i64 b1] 28) = Y1 at *
          refine (exchange_named (negL Q) (negL P) f2 g2 d2 c2 Y1 (by rw [negL_len]; exact H16.out.2) (by rw [negL_len]; exact H16.out.1.2) (by rw [negL_len, negL_len]; have := H16.out.1.1; omega) HQ2.out.n HP2.out.n (small_all HSB.out.n HSA.out.n)).mono ?_
          rintro e y2 ⟨a2, b2, rfl, HE2, hb⟩
          have HW4 := Lib.hid (below_alloc (HW3.out.trans (hb.mono HW3.out.size)) (.cells #[.int .i64 a2, .int .i64 b2] 28))
          have hbx := hb.trans ((below_alloc (Below.refl y2.heap.size y2) (.cells #[.int .i64 a2, .int .i64 b2] 28)).mono hb.size)
          have HP3 := Lib.hid (HP2.out.below hbx)
          have HQ3 := Lib.hid (HQ2.out.below hbx)
          have HD12 := Lib.hid (HD1.out.below hbx)
          have HD2 := Lib.hid (two_new y2 a2 b2 28)
          clear hb hbx HW3 HP2 HQ2 HD1
          go_wp2_with fail
          generalize y2.alloc (.cells #[.int .i64 a2, .int .i64 b2] 28) = Y2 at *
          refine (exchange_named (shL s P) (shL s Q) g3 f3 c3 d3 Y2 (by rw [shL_len]; exact H16.out.1.2) (by rw [shL_len]; exact H16.out.2) (by rw [shL_len, shL_len]; exact H16.out.1.1) HP3.out.m HQ3.out.m (small_all HSA.out.m HSB.out.m)).mono ?_
          rintro e y3 ⟨a3, b3, rfl, HE3, hb⟩
          have HW5 := Lib.hid (below_alloc (HW4.out.trans (hb.mono HW4.out.size)) (.cells #[.int .i64 a3, .int .i64 b3] 28))
          have hbx := hb.trans ((below_alloc (Below.refl y3.heap.size y3) (.cells #[.int .i64 a3, .int .i64 b3] 28)).mono hb.size)
          have HP4 := Lib.hid (HP3.out.below hbx)
          have HQ4 := Lib.hid (HQ3.out.below hbx)
          have HD13 := Lib.hid (HD12.out.below hbx)
          have HD23 := Lib.hid (HD2.out.below hbx)
          have HD3 := Lib.hid (two_new y3 a3 b3 28)
          clear hb hbx HW4 HP3 HQ3 HD12 HD2
          go_wp2_with fail
          generalize y3.alloc (.cells #[.int .i64 a3, .int .i64 b3] 28) = Y3 at *
          refine (exchange_named (negL P) (negL Q) g2 f2 c2 d2 Y3 (by rw [negL_len]; exact H16.out.1.2) (by rw [negL_len]; exact H16.out.2) (by rw [negL_len, negL_len]; exact H16.out.1.1) HP4.out.n HQ4.out.n (small_all HSA.out.n HSB.out.n)).mono ?_
          rintro e y4 ⟨a4, b4, rfl, HE4, hb⟩
          have HW6 := Lib.hid (below_alloc (HW5.out.trans (hb.mono HW5.out.size)) (.cells #[.int .i64 a4, .int .i64 b4] 28))
          have HD14 := Lib.hid (HD13.out.below hb)
          have HD24 := Lib.hid (HD23.out.below hb)
          have HD34 := Lib.hid (HD3.out.below hb)
          clear hb HW5 HP4 HQ4 HD13 HD23 HD3
          obtain ⟨⟨u1, u2⟩, ⟨u3, u4⟩, HX⟩ := HLAW.out
          rw [← HE1.out.1, ← HE1.out.2, ← HE4.out.1, ← HE4.out.2] at HX
          rw [← HE1.out.1, ← HE2.out.1] at u1
          rw [← HE1.out.2, ← HE2.out.2] at u2
          rw [← HE1.out.1, ← HE3.out.1] at u3
          rw [← HE1.out.2, ← HE3.out.2] at u4
          clear HE1 HE2 HE3 HE4 HLAW
          subst u1 u2 u3 u4
          obtain ⟨x1, x2, x3, x4, x5, x6⟩ := HX
          obtain ⟨p0, p1⟩ := HD14.out
          obtain ⟨q0, q1⟩ := HD24.out
          obtain ⟨r0, r1⟩ := HD34.out
          have z1 := cell_lt p0
          have z2 := cell_lt q0
          have z3 := cell_lt r0
          have m1 := mul_bd2 (x := a3) (y := b4) (a := 65536) (b := 65536) (by omega) (by omega)
          have m2 := mul_bd2 (x := a4) (y := b3) (a := 65536) (b := 65536) (by omega) (by omega)
          have m3 := mul_bd2 (x := b3) (y := b4) (a := 65536) (b := 65536) (by omega) (by omega)
          have k1 : IntKind.i64.wrap (a3 * b4) = a3 * b4 := IntWalk.i64_in _ (by omega)
          have k2 : IntKind.i64.wrap (a4 * b3) = a4 * b3 := IntWalk.i64_in _ (by omega)
          have k3 : IntKind.i64.wrap (b3 * b4) = b3 * b4 := IntWalk.i64_in _ (by omega)
          have k4 : IntKind.i64.wrap (a3 * b4 + a4 * b3) = a3 * b4 + a4 * b3 := IntWalk.i64_in _ (by omega)
          have o1 : ¬ (a3 < 1) := by omega
          have o2 : ¬ (b3 < a3) := by omega
          clear m1 m2 m3 HD14 HD24 HD34 H16 HSA HSB
          go_wp2_with fail
          refine (awake_any _).mono ?_
          rintro e y5 ⟨rfl, hb5⟩
          have HW7 := Lib.hid (HW6.out.trans (hb5.mono HW6.out.size))
          clear hb5
          go_wp2
          go_ret
          exact ⟨rfl, HW7.out⟩
end Go.Proofs.Ytbkcjhmemfndbaa
