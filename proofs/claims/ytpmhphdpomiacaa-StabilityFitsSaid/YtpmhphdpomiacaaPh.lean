/- A series that is made of numbers of 16 bits. -/
import Derived.Test.YtpmhphdpomiacaaSb
namespace Go.Proofs.Ytpmhphdpomiacaa
open Go Go.RowKit Go.Shelf
theorem I16In.cell {w : World} {l : List Int} {b o cap : Nat} (h : I16In w l (some ⟨b, o, none⟩) cap) (k : Nat) (hk : k < l.length) : w.cell? ⟨b, o + k, none⟩ = some (.int .i16 (atL l k)) := by
  rcases h.at_ with h0 | ⟨b', o', hp, hc⟩
  · omega
  · cases hp
    rw [← atL_get l k hk]; exact hc k hk
theorem take_snoc (l : List Int) (n k : Nat) (h : k < n) (hn : n ≤ l.length) : (l.take n).take (k + 1) = (l.take n).take k ++ [atL l k] := by
  have hk : k < (l.take n).length := by simp; omega
  rw [List.take_succ_eq_append_getElem hk, List.getElem_take, atL_get l k (by omega)]
/-- what phased hands back -/
def PhRet (w : World) (L : List Int) (tau : Int) (e : Ending) (w' : World) : Prop := ∃ p cap, e = .returned (.agg #[.int .i64 tau, .slice p L.length cap]) ∧ SerIn w' L p ∧ Below w.heap.size w w'
def PhRetC (w : World) (L : List Int) (tau : Int) (e : Ending) (w' : World) : Prop := ∃ p cap, e = .returned (.agg #[.int .i64 tau, .slice p L.length cap]) ∧ SerIn w' L p ∧ L.length ≤ cap ∧ (p = none ∨ ∃ g, p = some ⟨g, 0, none⟩) ∧ Below w.heap.size w w'
theorem own_ptr {w : World} {b s n cap k : Nat} {t : TypeId} {p : Option Addr} {xs : List Value} (h : w.ownsRow b t s (.slice p n cap) k xs) : p = none ∨ ∃ g, p = some ⟨g, 0, none⟩ := by
  rcases h.2 with ⟨e, _⟩ | ⟨g, cap', cur, e, _⟩
  · cases e; exact .inl rfl
  · cases e; exact .inr ⟨g, rfl⟩
set_option maxRecDepth 100000 in
set_option maxHeartbeats 2000000 in
theorem phased_cap (l : List Int) (p : Option Addr) (cap : Nat) (tau : Int) (w : World) (ha : I16In w l p cap) (ht : 0 ≤ tau ∧ tau ≤ 255) :
    Calls Try.prog 19 #[.slice p l.length cap, .int .u8 tau] w (PhRetC w (l.take (min l.length 100)) (1 + tau)) := by
  have hla := ha.len
  unfold maxLen at hla
  have hca := ha.cap
  obtain ⟨n, hn⟩ : ∃ n : Nat, n = min l.length 100 := ⟨_, rfl⟩
  rw [← hn]
  have ea : min (l.length : Int) 100 = (n : Int) := by omega
  have qa : (n : Int) ≤ (cap : Int) := by omega
  have qa' : n ≤ cap := by omega
  have hnl : n ≤ l.length := by omega
  have hn100 : n ≤ 100 := by omega
  have w1 : IntKind.i64.wrap tau = tau := IntWalk.i64_in _ (by omega)
  have w2 : IntKind.i64.wrap (1 + tau) = 1 + tau := IntWalk.i64_in _ (by omega)
  obtain ⟨i0, hi0, hz0, hz1, hz2⟩ := info_parts infoInt
  have a0 := below_alloc (Below.refl w.heap.size w) (.cells #[.int .i64 0, .slice none 0 0] 24)
  have HA := Lib.hid (ha.below a0)
  have r0 : Hid ((w.alloc (.cells #[.int .i64 0, .slice none 0 0] 24)).cell? ⟨w.heap.size, 0, none⟩ = some (.int .i64 0)) := Lib.hid (by simp)
  have r1 : Hid ((w.alloc (.cells #[.int .i64 0, .slice none 0 0] 24)).cell? ⟨w.heap.size, 1, none⟩ = some (.slice none 0 0)) := Lib.hid (by simp)
  have g0 : Hid ((w.alloc (.cells #[.int .i64 0, .slice none 0 0] 24)).frozen? ⟨w.heap.size, 0, none⟩ = false) := Lib.hid (by simp)
  have g1 : Hid ((w.alloc (.cells #[.int .i64 0, .slice none 0 0] 24)).frozen? ⟨w.heap.size, 1, none⟩ = false) := Lib.hid (by simp)
  have A0 := Lib.hid a0
  have HN := Lib.hid hn
  have HP : Hid (p = none → n = 0) := Lib.hid (fun e => by
    rcases ha.at_ with h0 | ⟨b, o, hp, _⟩
    · omega
    · rw [e] at hp; cases hp)
  have HQ : Hid (1 ≤ n → ∃ b o, p = some ⟨b, o, none⟩) := Lib.hid (fun h => by
    obtain ⟨b, o, hp, _⟩ := ha.at_.resolve_left (by omega)
    exact ⟨b, o, hp⟩)
  clear ha hla hca hn a0
  have hcase : ((l.length : Int) ≤ 100 ∧ l.length = n) ∨ (100 < (l.length : Int) ∧ 100 = n) := by have := HN.out; omega
  have HS := Lib.hid (SBox.start (w.alloc (.cells #[.int .i64 0, .slice none 0 0] 24)) (1 + tau) 24)
  rw [show (w.alloc (.cells #[.int .i64 0, .slice none 0 0] 24)).heap.size = w.heap.size + 1 by simp] at HS
  rcases p with _ | a
  · have hz : n = 0 := HP.out rfl
    have hl0 : l.length = 0 := by omega
    obtain rfl : l = [] := List.eq_nil_of_length_eq_zero hl0
    go_enter Try.func19, Try.ntmps19
    go_wp2
    go_loopw [18] (fun i wr => i = .int .i64 0 ∧ Hid (SBox (w.alloc (.cells #[.int .i64 0, .slice none 0 0] 24)) wr (w.heap.size + 1) (1 + tau) (.slice none 0 0) [])) (fun _ _ => 0)
    case atStart => exact ⟨rfl, HS⟩
    case round =>
      obtain ⟨rfl, HT⟩ := hrel
      have c0 := HT.out.c0
      have c1 := HT.out.c1
      have hz := cell_lt c1
      have s0 := cell_below HT.out.bel r0.out
      have s1 := cell_below HT.out.bel r1.out
      have f0 := (HT.out.bel.frozen (p := ⟨w.heap.size, 0, none⟩) (cell_lt r0.out)).trans g0.out
      have f1 := (HT.out.bel.frozen (p := ⟨w.heap.size, 1, none⟩) (cell_lt r1.out)).trans g1.out
      have hz2 := cell_lt s0
      have e0 := two_c0 (.int .i64 (1 + tau)) s0
      have e1 := two_c1 (.int .i64 (1 + tau)) (.slice none 0 0) s1
      go_wp2
      refine bodyPost_ret (v := .agg #[.int .i64 (1 + tau), .slice none 0 0]) (by simp [results, Try.results19, go_sem, e0, e1]) rfl ?_
      exact ⟨none, 0, by simp, ⟨by simp [maxLen], .inl (by simp)⟩, by simp, .inl rfl, ((A0.out.trans (HT.out.bel.mono A0.out.size)).setCell (p := ⟨w.heap.size, 0, none⟩) (Nat.le_refl _) _).setCell (p := ⟨w.heap.size, 1, none⟩) (Nat.le_refl _) _⟩
  · have HQ' : Hid (1 ≤ n → ∃ b o, a = ⟨b, o, none⟩) := Lib.hid (fun h => by
      obtain ⟨b, o, e⟩ := HQ.out h
      exact ⟨b, o, Option.some.inj e⟩)
    clear HP HQ HN
    have hcase' : ((l.length : Int) ≤ 100 ∧ l.length = n) ∨ ((100 < (l.length : Int) ∧ (100 : Int) = (n : Int)) ∧ 100 = n) := by omega
    clear hcase
    rcases hcase' with ⟨hle, hnn⟩ | ⟨⟨hgt, hni⟩, hnn⟩
    all_goals
      go_enter Try.func19, Try.ntmps19
      go_wp2
      try rw [hnn]
      go_loopw [18] (fun i wr => ∃ (k : Nat) (v : Value), k ≤ n ∧ i = .int .i64 (k : Int) ∧ Hid (SBox (w.alloc (.cells #[.int .i64 0, .slice none 0 0] 24)) wr (w.heap.size + 1) (1 + tau) v ((l.take n).take k))) (fun i _ => n - (intOf i).toNat)
      case atStart => exact ⟨0, _, Nat.zero_le _, rfl, HS⟩
      case round =>
        obtain ⟨k, v, hk, rfl, HT⟩ := hrel
        by_cases hlt : k < n
        · have hkl : (k : Int) < (n : Int) := by omega
          obtain ⟨b, o, rfl⟩ := HQ'.out (by omega)
          have x0 := cell_below HT.out.bel (HA.out.cell k (by omega))
          have hbd := HA.out.bd k
          have HTK := Lib.hid (take_snoc l n k hlt hnl)
          have hlen : ((l.take n).take k).length = k := by simp; omega
          have wx : IntKind.i64.wrap (atL l k) = atL l k := IntWalk.i64_in _ (by omega)
          have c1 := HT.out.c1
          have hz := cell_lt c1
          go_wp2_with (at_builtin; refine wpList_append_own_at _ rfl (.tmp 23) (.tmp 26) _ rfl (w.alloc (.cells #[.int .i64 0, .slice none 0 0] 24)).heap.size 3 i0 (.int .i64 0) 1 8 Try.underlying22 hi0 hz0 hz1 hz2 rfl (by decide) _ _ _ rfl (HT.out.own.alloc _) ⟨wr.heap.size, 0, none⟩ 1 1 [.int .i64 (atL l k)] rfl rfl (cell_one_new _ _ _) (by simp [Value.oneCell']) (by rw [hlen]; unfold maxLen; omega) (by rw [hlen]; omega) (by have := HT.out.bel.size; simp at this; simp; omega) ?_; intro v' z1 hown hg _ hb; obtain ⟨gn, cn, rfl⟩ := ownsRow_succ hown; have HG := Lib.hid (HT.out.grow hown hg hb); obtain ⟨u, d1⟩ := HG.out.c1; have d2 := HG.out.f1; have hz' := cell_lt d1; clear hown hg hb c1)
          have HS2 := HG.out.store
          rw [← HTK.out, hlen] at HS2
          go_roundw
          case rel => exact ⟨k + 1, _, by omega, by go_num, Lib.hid HS2⟩
          case measure => simp [intOf]; omega
        · obtain rfl : k = n := by omega
          have HT0 := HT.out
          rw [List.take_take, Nat.min_self] at HT0
          obtain ⟨q, qc, rfl, hs, hqb, hqc⟩ := ints_own HT0.own
          have HQP := Lib.hid (own_ptr HT0.own)
          have hlk : (l.take k).length = k := by simp; omega
          have c0 := HT0.c0
          have c1 := HT0.c1
          have hz := cell_lt c1
          have s0 := cell_below HT0.bel r0.out
          have s1 := cell_below HT0.bel r1.out
          have f0 := (HT0.bel.frozen (p := ⟨w.heap.size, 0, none⟩) (cell_lt r0.out)).trans g0.out
          have f1 := (HT0.bel.frozen (p := ⟨w.heap.size, 1, none⟩) (cell_lt r1.out)).trans g1.out
          have hz2 := cell_lt s0
          have HB := Lib.hid HT0.bel
          have HSS := Lib.hid hs
          have e0 := two_c0 (.int .i64 (1 + tau)) s0
          have e1 := two_c1 (.int .i64 (1 + tau)) (.slice q k qc) s1
          have HQB : Hid (∀ j o, q = some ⟨j, o, none⟩ → w.heap.size < j) := Lib.hid (fun j o e => by have := hqb j o e; simp at this; omega)
          have HLK := Lib.hid hlk
          have HQC := Lib.hid hqc
          clear HT HT0 hs hqb hqc
          go_wp2
          refine bodyPost_ret (v := .agg #[.int .i64 (1 + tau), .slice q k qc]) (by simp [results, Try.results19, go_sem, e0, e1]) rfl ?_
          exact ⟨q, qc, by rw [HLK.out], ⟨by rw [HLK.out]; unfold maxLen; omega, (HSS.out.set HQB.out).set HQB.out⟩, HQC.out, HQP.out, ((A0.out.trans (HB.out.mono A0.out.size)).setCell (p := ⟨w.heap.size, 0, none⟩) (Nat.le_refl _) _).setCell (p := ⟨w.heap.size, 1, none⟩) (Nat.le_refl _) _⟩
theorem phased_any (l : List Int) (p : Option Addr) (cap : Nat) (tau : Int) (w : World) (ha : I16In w l p cap) (ht : 0 ≤ tau ∧ tau ≤ 255) :
    Calls Try.prog 19 #[.slice p l.length cap, .int .u8 tau] w (PhRet w (l.take (min l.length 100)) (1 + tau)) :=
  (phased_cap l p cap tau w ha ht).mono fun _ _ ⟨p, cap, h, hs, _, _, hb⟩ => ⟨p, cap, h, hs, hb⟩
end Go.Proofs.Ytpmhphdpomiacaa
