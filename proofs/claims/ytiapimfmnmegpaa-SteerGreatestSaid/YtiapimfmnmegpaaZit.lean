/- Stage 6 (steer): the iterators over all states, all new rates that can be taken, all disturbances. -/
import Derived.Test.YtiapimfmnmegpaaZqf
namespace Go.Proofs.Ytiapimfmnmegpaa.St
open Go Go.RowKit Go.Shelf
attribute [local go_sem] Oper.semAt_some
/-- the first k numbers below N -/
def fl (N : Nat) : (k : Nat) → k ≤ N → List (Fin N)
  | 0, _ => []
  | k + 1, h => fl N k (Nat.le_of_succ_le h) ++ [⟨k, h⟩]
theorem fl_len (N : Nat) : ∀ k h, (fl N k h).length = k
  | 0, _ => rfl
  | k + 1, h => by simp [fl, fl_len N k]
theorem fl_prefix (N : Nat) {k : Nat} (h : k ≤ N) : ∀ {n : Nat} (hn : n ≤ N), k ≤ n → fl N k h <+: fl N n hn
  | 0, _, hk => by obtain rfl : k = 0 := by omega
                   exact List.prefix_refl _
  | n + 1, hn, hk => by
    by_cases e : k = n + 1
    · subst e; exact List.prefix_refl _
    · exact (fl_prefix N h (Nat.le_of_succ_le hn) (by omega)).trans (List.prefix_append _ _)
theorem fl_mem (N : Nat) : ∀ k h (x : Fin N), x ∈ fl N k h ↔ x.1 < k
  | 0, _, x => by simp [fl]
  | k + 1, h, x => by
    rw [fl, List.mem_append, fl_mem N k, List.mem_singleton]
    constructor
    · rintro (h1 | rfl)
      · omega
      · exact Nat.lt_succ_self _
    · intro h1
      by_cases e : x.1 < k
      · exact .inl e
      · exact .inr (Fin.ext (by show x.1 = k; omega))
/-- the width of a row of states -/
def wid (r : Int) : Nat := (2 * r + 1).toNat
def stE (l r : Int) (k : Nat) : Int := ((k / wid r : Nat) : Int) - l
def stQ (r : Int) (k : Nat) : Int := ((k % wid r : Nat) : Int) - r
def encS (l r : Int) {N : Nat} (k : Fin N) : Array Value := #[.int .i64 (k.1 : Int), .agg #[.int .i64 (stE l r k.1), .int .i64 (stQ r k.1)]]
def encQ (r : Int) {N : Nat} (k : Fin N) : Array Value := #[.int .i64 ((k.1 : Int) - r)]
def encD (e q z : Int) {N : Nat} (k : Fin N) : Array Value := #[.int .i64 ((k.1 : Int) - z), .agg #[.int .i64 (e + q + ((k.1 : Int) - z)), .int .i64 q]]
/-- a plan in its box -/
def PlAt (W : World) (B : Nat) (l r s z : Int) : Prop := W.heap[B]? = some (.cells #[.int .i64 l, .int .i64 r, .int .i64 s, .int .i64 z] 27)
structure PlC (W : World) (B : Nat) (l r s z : Int) : Prop where
  c0 : W.cell? ⟨B, 0, none⟩ = some (.int .i64 l)
  c1 : W.cell? ⟨B, 1, none⟩ = some (.int .i64 r)
  c2 : W.cell? ⟨B, 2, none⟩ = some (.int .i64 s)
  c3 : W.cell? ⟨B, 3, none⟩ = some (.int .i64 z)
theorem PlAt.c {W : World} {B : Nat} {l r s z : Int} (h : PlAt W B l r s z) : PlC W B l r s z := by
  unfold PlAt at h
  constructor <;> simp [World.cell?, h]
theorem PlAt.below {W X : World} {B : Nat} {l r s z : Int} (h : PlAt W B l r s z) (hb : Below W.heap.size W X) : PlAt X B l r s z := heap_below hb h
theorem PlAt.kp {W X : World} {B : Nat} {l r s z : Int} {f : Nat → TypeId → Prop} (h : PlAt W B l r s z) (hb : KpF f W X) (hf : f B 27) : PlAt X B l r s z := hb.same _ _ _ _ hf h
theorem EntAt.kp {W X : World} {B : Nat} {e q : Int} {f : Nat → TypeId → Prop} (h : EntAt W B e q) (hb : KpF f W X) (hf : f B 56) : EntAt X B e q := hb.same _ _ _ _ hf h
theorem CtlAt.kp {W X : World} {B : Nat} {l r s z : Int} {p : Option Addr} {N c : Nat} {f : Nat → TypeId → Prop} (h : CtlAt W B l r s z p N c) (hb : KpF f W X) (hf : f B 68) : CtlAt X B l r s z p N c := hb.same _ _ _ _ hf h
theorem box_kp {W X : World} {B : Nat} {t : TypeId} {v : Value} {f : Nat → TypeId → Prop} (h : Boxed W B t v) (hb : KpF f W X) (hf : f B t) : Boxed X B t v := hb.same _ _ _ _ hf h
theorem box_bel {W X : World} {B : Nat} {t : TypeId} {v : Value} (h : Boxed W B t v) (hb : Below W.heap.size W X) : Boxed X B t v := heap_below hb h
set_option maxRecDepth 100000 in
set_option maxHeartbeats 2000000 in
theorem rates1_in (n lp Bp Bs : Nat) (l r s z e g : Int) (h : PlanOk l r s z) (hg : -r ≤ g ∧ g ≤ r) (N : Nat) (hN : 2 * r + 1 = (N : Int)) (f : Nat → TypeId → Prop) (hf : f Bp 27 ∧ f Bs 56) (hn : 1 ≤ n) (J Jx : List (Fin N) → World → Prop) (W : World)
    (hY : ∀ pre d W1, J pre W1 → pre.length < N → YieldAt Fence.wide (n - 1) Try.prog lp (encQ r d) W1 fun e W' =>
      (e = .returned (.bool true) ∧ J (pre ++ [d]) W' ∧ KpF f W1 W') ∨ (e = .returned (.bool false) ∧ Jx (pre ++ [d]) W'))
    (hJ : AbidesFrom W.heap.size J) (hP : PlAt W Bp l r s z) (hE : EntAt W Bs e g) (hJ0 : J [] W) :
    CallsIn Fence.wide n Try.prog 64 #[.func (.yield lp) #[] #[], .pointer (some ⟨Bp, 0, none⟩), .pointer (some ⟨Bs, 0, none⟩)] W fun e W' => (∃ v, e = .returned v) ∧
      ((∃ ys, ys = (fl N N (Nat.le_refl _)).filter (fun k => allP r s g ((k.1 : Int) - r)) ∧ J ys W') ∨ (∃ pre, pre <+: (fl N N (Nat.le_refl _)).filter (fun k => allP r s g ((k.1 : Int) - r)) ∧ Jx pre W')) := by
  have hro : Fence.wide.round = none := rfl
  have HJ := Lib.hid (show ∀ (s : List (Fin N)) (X Y : World), J s X → Below X.heap.size X Y → J s Y from fun s X Y h hb => hJ s X Y none h (gbw hb) (fun r e => by cases e))
  have HP0 := Lib.hid hP
  have HE0 := Lib.hid hE
  obtain ⟨x0, x1, x2, x3⟩ := hP.c
  have hr1 := h.r1
  have hr2 := h.r2
  have v1 : IntKind.i64.wrap (-r) = -r := IntWalk.i64_in _ (by omega)
  have HAL := Lib.hid (fun q W => allows_any (e := e) (q := q) h hg W)
  clear hP hE hJ
  refine callsIn_of_wp Try.func64 rfl trivial ?_ hro
  simp only [Try.ntmps64, List.size_toArray, List.length_cons, List.length_nil, Nat.reduceAdd, Nat.reduceSub, Array.replicate_succ, Array.replicate_zero, List.push_toArray, List.append_toArray, List.nil_append, List.cons_append]
  gi_wp2
  clear x0 x1 x2 x3
  gi_loopw [4, 12] (fun i x wr => ∃ (k : Nat) (h : k ≤ N) (v : Value), i = .int .i64 ((k : Int) - r) ∧ x = v ∧ Hid (PlAt wr Bp l r s z) ∧ Hid (EntAt wr Bs e g) ∧ J ((fl N k h).filter (fun k => allP r s g ((k.1 : Int) - r))) wr) (fun i _ _ => N - (intOf i + r).toNat)
  case atStart => exact ⟨0, Nat.zero_le _, _, by simp, rfl, HP0, HE0, hJ0⟩
  case round =>
    obtain ⟨k, hk, v, rfl, rfl, HP, HE, hJk⟩ := hrel
    by_cases hlt : k < N
    · have hle : (k : Int) - r ≤ r := by omega
      have vk : IntKind.i64.wrap ((k : Int) - r + 1) = ((k + 1 : Nat) : Int) - r := by rw [IntWalk.i64_in _ (by omega)]; omega
      have HK := Lib.hid hlt
      obtain ⟨x0, x1, x2, x3⟩ := HP.out.c
      have y0 := HE.out.c0
      have y1 := HE.out.c1
      have zx := cell_lt x0
      have zy := cell_lt y0
      cases ha : allP r s g ((k : Int) - r)
      · have HA := Lib.hid (HAL.out ((k : Int) - r))
        rw [ha] at HA
        have HF := Lib.hid (show (fl N (k + 1) HK.out).filter (fun k => allP r s g ((k.1 : Int) - r)) = (fl N k hk).filter (fun k => allP r s g ((k.1 : Int) - r)) by
          rw [fl, List.filter_append, show ([(⟨k, HK.out⟩ : Fin N)].filter fun k => allP r s g ((k.1 : Int) - r)) = [] by simp [ha], List.append_nil])
        clear ha hlt
        gi_wp2_with (refine ⟨trivial, ?_⟩; gi_at_call 43; refine (callsIn_wide.2 (HA.out _)).mono ?_; rintro e W2 ⟨rfl, hb2⟩)
        have HP2 := Lib.hid (HP.out.below hb2)
        have HE2 := Lib.hid (HE.out.below hb2)
        have hJ2 := HJ.out _ _ _ hJk hb2
        clear hb2 x0 x1 x2 x3 y0 y1 zx zy
        gi_wp2
        refine ⟨fun _ h => (by cases h), ?_⟩
        go_at_K
        gi_wp2
        go_roundw
        case rel => exact ⟨k + 1, HK.out, _, rfl, rfl, HP2, HE2, by rw [HF.out]; exact hJ2⟩
        case measure => have := HK.out; simp [intOf]; omega
      · have HA := Lib.hid (HAL.out ((k : Int) - r))
        rw [ha] at HA
        have HF := Lib.hid (show (fl N (k + 1) HK.out).filter (fun k => allP r s g ((k.1 : Int) - r)) = (fl N k hk).filter (fun k => allP r s g ((k.1 : Int) - r)) ++ [⟨k, HK.out⟩] by
          rw [fl, List.filter_append, show ([(⟨k, HK.out⟩ : Fin N)].filter fun k => allP r s g ((k.1 : Int) - r)) = [⟨k, HK.out⟩] by simp [ha]])
        have h1 := Lib.hid (fun W1 hJ1 => hY ((fl N k hk).filter (fun k => allP r s g ((k.1 : Int) - r))) ⟨k, HK.out⟩ W1 hJ1 (Nat.lt_of_le_of_lt (List.length_filter_le _ _) (by rw [fl_len]; exact HK.out)))
        clear ha hlt
        gi_wp2
        refine ⟨trivial, (callsIn_wide.2 (HA.out _)).mono ?_⟩
        rintro e W2 ⟨rfl, hb2⟩
        have HP2 := Lib.hid (HP.out.below hb2)
        have HE2 := Lib.hid (HE.out.below hb2)
        have hJ2 := HJ.out _ _ _ hJk hb2
        obtain ⟨fn, tmps, assign, body, hy, hR⟩ := h1.out _ hJ2
        unfold encQ at hy
        dsimp only at hy
        clear hb2 x0 x1 x2 x3 y0 y1 zx zy
        gi_wp2
        refine hR.mono ?_
        rintro e W3 (⟨rfl, hJ3, hk3⟩ | ⟨rfl, hJx3⟩)
        · have HP3 := Lib.hid (HP2.out.kp hk3 hf.1)
          have HE3 := Lib.hid (HE2.out.kp hk3 hf.2)
          clear hy hR hk3 hJ2 h1
          gi_wp2
          go_roundw
          case rel => exact ⟨k + 1, HK.out, _, rfl, rfl, HP3, HE3, by rw [HF.out]; exact hJ3⟩
          case measure => have := HK.out; simp [intOf]; omega
        · clear hy hR hJ2 h1
          gi_wp2
          refine bodyPost_ret (results_none rfl _ _ _) rfl ?_
          refine ⟨⟨_, rfl⟩, .inr ⟨_, ?_, hJx3⟩⟩
          rw [← HF.out]
          exact (fl_prefix N (k := k + 1) HK.out (Nat.le_refl _) HK.out).filter _
    · have hle : ¬ ((k : Int) - r ≤ r) := by omega
      obtain rfl : k = N := by omega
      obtain ⟨x0, x1, x2, x3⟩ := HP.out.c
      have zx := cell_lt x0
      gi_wp2
      go_end0
      exact ⟨⟨_, rfl⟩, .inl hJk⟩
theorem rates1_stops (n Bp Bs : Nat) (l r s z e g : Int) (h : PlanOk l r s z) (hg : -r ≤ g ∧ g ≤ r) (N : Nat) (hN : 2 * r + 1 = (N : Int)) (f : Nat → TypeId → Prop) (hf : f Bp 27 ∧ f Bs 56) (hn : 1 ≤ n) (w : World) (hP : PlAt w Bp l r s z) (hE : EntAt w Bs e g) :
    SeqStopsK Fence.wide n Try.prog 64 #[.pointer (some ⟨Bp, 0, none⟩), .pointer (some ⟨Bs, 0, none⟩)] (encQ r) (KpF f)
      (fun ys => ys = (fl N N (Nat.le_refl _)).filter (fun k => allP r s g ((k.1 : Int) - r))) (fun pre => pre <+: (fl N N (Nat.le_refl _)).filter (fun k => allP r s g ((k.1 : Int) - r))) N w := by
  intro lp J Jx W hW hJ _ hY hJ0
  exact rates1_in n lp Bp Bs l r s z e g h hg N hN f hf hn J Jx W hY hJ (hP.below hW) (hE.below hW) hJ0
set_option maxRecDepth 100000 in
set_option maxHeartbeats 2000000 in
theorem next1_in (n lp Bp Bs Bq : Nat) (l r s z e g q : Int) (h : PlanOk l r s z) (he : (-1000 ≤ e ∧ e ≤ 1000) ∧ (-1000 ≤ q ∧ q ≤ 1000)) (N : Nat) (hN : 2 * z + 1 = (N : Int)) (f : Nat → TypeId → Prop) (hf : f Bp 27 ∧ f Bs 56 ∧ f Bq 3) (hn : 1 ≤ n) (J Jx : List (Fin N) → World → Prop) (W : World)
    (hY : ∀ pre d W1, J pre W1 → pre.length < N → YieldAt Fence.wide (n - 1) Try.prog lp (encD e q z d) W1 fun e W' =>
      (e = .returned (.bool true) ∧ J (pre ++ [d]) W' ∧ KpF f W1 W') ∨ (e = .returned (.bool false) ∧ Jx (pre ++ [d]) W'))
    (hJ : AbidesFrom W.heap.size J) (hP : PlAt W Bp l r s z) (hE : EntAt W Bs e g) (hQ : Boxed W Bq 3 (.int .i64 q)) (hJ0 : J [] W) :
    CallsIn Fence.wide n Try.prog 63 #[.func (.yield lp) #[] #[], .pointer (some ⟨Bp, 0, none⟩), .pointer (some ⟨Bs, 0, none⟩), .pointer (some ⟨Bq, 0, none⟩)] W fun e W' => (∃ v, e = .returned v) ∧
      ((∃ ys, ys = fl N N (Nat.le_refl _) ∧ J ys W') ∨ (∃ pre, pre <+: fl N N (Nat.le_refl _) ∧ Jx pre W')) := by
  have hro : Fence.wide.round = none := rfl
  have HJ := Lib.hid (show ∀ (s : List (Fin N)) (X Y : World), J s X → Below X.heap.size X Y → J s Y from fun s X Y h hb => hJ s X Y none h (gbw hb) (fun r e => by cases e))
  have HP0 := Lib.hid hP
  have HE0 := Lib.hid hE
  have HQ0 := Lib.hid hQ
  obtain ⟨x0, x1, x2, x3⟩ := hP.c
  have hz1 := h.z1
  have hz2 := h.z2
  have v1 : IntKind.i64.wrap (-z) = -z := IntWalk.i64_in _ (by omega)
  have HAF := Lib.hid (fun d W (hd : -1000 ≤ d ∧ d ≤ 1000) => after_any (e := e) (g := g) (q := q) (d := d) (by omega) (by omega) W)
  clear hP hE hJ hQ h
  refine callsIn_of_wp Try.func63 rfl trivial ?_ hro
  simp only [Try.ntmps63, List.size_toArray, List.length_cons, List.length_nil, Nat.reduceAdd, Nat.reduceSub, Array.replicate_succ, Array.replicate_zero, List.push_toArray, List.append_toArray, List.nil_append, List.cons_append]
  gi_wp2
  clear x0 x1 x2 x3
  gi_loopw [5, 13] (fun i x wr => ∃ (k : Nat) (h : k ≤ N) (v : Value), i = .int .i64 ((k : Int) - z) ∧ x = v ∧ Hid (PlAt wr Bp l r s z) ∧ Hid (EntAt wr Bs e g) ∧ Hid (Boxed wr Bq 3 (.int .i64 q)) ∧ J (fl N k h) wr) (fun i _ _ => N - (intOf i + z).toNat)
  case atStart => exact ⟨0, Nat.zero_le _, _, by simp, rfl, HP0, HE0, HQ0, hJ0⟩
  case round =>
    obtain ⟨k, hk, v, rfl, rfl, HP, HE, HQ, hJk⟩ := hrel
    by_cases hlt : k < N
    · have hle : (k : Int) - z ≤ z := by omega
      have vk : IntKind.i64.wrap ((k : Int) - z + 1) = ((k + 1 : Nat) : Int) - z := by rw [IntWalk.i64_in _ (by omega)]; omega
      have HK := Lib.hid hlt
      obtain ⟨x0, x1, x2, x3⟩ := HP.out.c
      have y0 := HE.out.c0
      have y1 := HE.out.c1
      have q0 := HQ.out.cell
      have zx := cell_lt x0
      have zy := cell_lt y0
      have zq := cell_lt q0
      have HA := Lib.hid (fun W => HAF.out ((k : Int) - z) W (by omega))
      have h1 := Lib.hid (fun W1 hJ1 => hY (fl N k hk) ⟨k, HK.out⟩ W1 hJ1 (by rw [fl_len]; exact HK.out))
      clear hlt
      gi_wp2
      refine ⟨trivial, (callsIn_wide.2 (HA.out _)).mono ?_⟩
      rintro e W2 ⟨rfl, hb2⟩
      have HP2 := Lib.hid (HP.out.below hb2)
      have HE2 := Lib.hid (HE.out.below hb2)
      have HQ2 := Lib.hid (box_bel HQ.out hb2)
      have hJ2 := HJ.out _ _ _ hJk hb2
      obtain ⟨fn, tmps, assign, body, hy, hR⟩ := h1.out _ hJ2
      unfold encD at hy
      dsimp only at hy
      clear hb2 x0 x1 x2 x3 y0 y1 zx zy q0 zq
      gi_wp2
      refine hR.mono ?_
      rintro e W3 (⟨rfl, hJ3, hk3⟩ | ⟨rfl, hJx3⟩)
      · have HP3 := Lib.hid (HP2.out.kp hk3 hf.1)
        have HE3 := Lib.hid (HE2.out.kp hk3 hf.2.1)
        have HQ3 := Lib.hid (box_kp HQ2.out hk3 hf.2.2)
        clear hy hR hk3 hJ2 h1
        gi_wp2
        go_roundw
        case rel => exact ⟨k + 1, HK.out, _, rfl, rfl, HP3, HE3, HQ3, hJ3⟩
        case measure => have := HK.out; simp [intOf]; omega
      · clear hy hR hJ2 h1
        gi_wp2
        refine bodyPost_ret (results_none rfl _ _ _) rfl ?_
        exact ⟨⟨_, rfl⟩, .inr ⟨_, fl_prefix N (k := k + 1) HK.out (Nat.le_refl _) HK.out, hJx3⟩⟩
    · have hle : ¬ ((k : Int) - z ≤ z) := by omega
      obtain rfl : k = N := by omega
      obtain ⟨x0, x1, x2, x3⟩ := HP.out.c
      have zx := cell_lt x0
      gi_wp2
      go_end0
      exact ⟨⟨_, rfl⟩, .inl hJk⟩
theorem next1_stops (n Bp Bs Bq : Nat) (l r s z e g q : Int) (h : PlanOk l r s z) (he : (-1000 ≤ e ∧ e ≤ 1000) ∧ (-1000 ≤ q ∧ q ≤ 1000)) (N : Nat) (hN : 2 * z + 1 = (N : Int)) (f : Nat → TypeId → Prop) (hf : f Bp 27 ∧ f Bs 56 ∧ f Bq 3) (hn : 1 ≤ n) (w : World) (hP : PlAt w Bp l r s z) (hE : EntAt w Bs e g) (hQ : Boxed w Bq 3 (.int .i64 q)) :
    SeqStopsK Fence.wide n Try.prog 63 #[.pointer (some ⟨Bp, 0, none⟩), .pointer (some ⟨Bs, 0, none⟩), .pointer (some ⟨Bq, 0, none⟩)] (encD e q z) (KpF f)
      (fun ys => ys = fl N N (Nat.le_refl _)) (fun pre => pre <+: fl N N (Nat.le_refl _)) N w := by
  intro lp J Jx W hW hJ _ hY hJ0
  exact next1_in n lp Bp Bs Bq l r s z e g q h he N hN f hf hn J Jx W hY hJ (hP.below hW) (hE.below hW) (box_bel hQ hW) hJ0
theorem wid_eq {l r s z : Int} (h : PlanOk l r s z) : (wid r : Int) = 2 * r + 1 ∧ 1 ≤ wid r := by
  have := h.r1
  unfold wid
  omega
theorem st_div {r : Int} {a b : Nat} (hb : b < wid r) : (a * wid r + b) / wid r = a ∧ (a * wid r + b) % wid r = b := by
  constructor
  · rw [Nat.mul_comm, Nat.mul_add_div (by omega), Nat.div_eq_of_lt hb, Nat.add_zero]
  · rw [Nat.mul_comm, Nat.mul_add_mod, Nat.mod_eq_of_lt hb]
theorem st_lt {l r s z : Int} (h : PlanOk l r s z) {N : Nat} (hN : sizP l r = (N : Int)) {a b : Nat} (ha : (a : Int) ≤ 2 * l) (hb : b < wid r) : a * wid r + b < N := by
  obtain ⟨h1, h2⟩ := wid_eq h
  have h3 : (a : Int) * (wid r : Int) ≤ (2 * l) * (wid r : Int) := Int.mul_le_mul_of_nonneg_right ha (by omega)
  have h4 : sizP l r = 2 * l * (wid r : Int) + (wid r : Int) := by unfold sizP; rw [h1, Int.add_mul]; omega
  have h5 : ((a * wid r + b : Nat) : Int) = (a : Int) * (wid r : Int) + (b : Int) := by simp
  omega
theorem st_all {l r s z : Int} (h : PlanOk l r s z) {N : Nat} (hN : sizP l r = (N : Int)) {a : Nat} (ha : (a : Int) = 2 * l + 1) : a * wid r = N := by
  obtain ⟨h1, h2⟩ := wid_eq h
  have h5 : ((a * wid r : Nat) : Int) = (a : Int) * (wid r : Int) := by simp
  unfold sizP at hN
  rw [ha, h1, hN] at h5
  omega
theorem st_bd {l r s z : Int} (h : PlanOk l r s z) {N : Nat} (hN : sizP l r = (N : Int)) {k : Nat} (hk : k < N) : (-l ≤ stE l r k ∧ stE l r k ≤ l) ∧ (-r ≤ stQ r k ∧ stQ r k ≤ r) := by
  obtain ⟨h1, h2⟩ := wid_eq h
  unfold stE stQ
  have h3 := Nat.mod_lt k (show 0 < wid r by omega)
  have h4 : k / wid r < (2 * l + 1).toNat := by
    rw [Nat.div_lt_iff_lt_mul (by omega)]
    have h5 : (((2 * l + 1).toNat * wid r : Nat) : Int) = (2 * l + 1) * (2 * r + 1) := by
      rw [Int.natCast_mul, h1, Int.toNat_of_nonneg (by have := h.l1; omega)]
    unfold sizP at hN
    omega
  have := h.l1
  generalize k / wid r = qa at *
  generalize k % wid r = qb at *
  omega
theorem st_idx {l r s z : Int} (h : PlanOk l r s z) (k : Nat) : idxP l r (stE l r k) (stQ r k) = (k : Int) := by
  obtain ⟨h1, h2⟩ := wid_eq h
  unfold idxP stE stQ
  rw [← h1]
  have := Nat.div_add_mod k (wid r)
  have h5 : (((wid r) * (k / wid r) : Nat) : Int) = (wid r : Int) * ((k / wid r : Nat) : Int) := Int.natCast_mul _ _
  generalize k / wid r = qa at *
  generalize k % wid r = qb at *
  have h6 : ((qa : Int) - l + l) * (wid r : Int) = (wid r : Int) * (qa : Int) := by rw [Int.sub_add_cancel, Int.mul_comm]
  omega
set_option maxRecDepth 100000 in
set_option maxHeartbeats 2000000 in
theorem states1_in (n lp Bp : Nat) (l r s z : Int) (h : PlanOk l r s z) (N : Nat) (hN : sizP l r = (N : Int)) (f : Nat → TypeId → Prop) (hf : f Bp 27) (hn : 1 ≤ n) (J Jx : List (Fin N) → World → Prop) (W : World)
    (hY : ∀ pre d W1, J pre W1 → pre.length < N → YieldAt Fence.wide (n - 1) Try.prog lp (encS l r d) W1 fun e W' =>
      (e = .returned (.bool true) ∧ J (pre ++ [d]) W' ∧ KpF f W1 W') ∨ (e = .returned (.bool false) ∧ Jx (pre ++ [d]) W'))
    (hP : PlAt W Bp l r s z) (hJ0 : J [] W) :
    CallsIn Fence.wide n Try.prog 62 #[.func (.yield lp) #[] #[], .pointer (some ⟨Bp, 0, none⟩)] W fun e W' => (∃ v, e = .returned v) ∧
      ((∃ ys, ys = fl N N (Nat.le_refl _) ∧ J ys W') ∨ (∃ pre, pre <+: fl N N (Nat.le_refl _) ∧ Jx pre W')) := by
  have hro : Fence.wide.round = none := rfl
  have HP0 := Lib.hid hP
  obtain ⟨x0, x1, x2, x3⟩ := hP.c
  have hl1 := h.l1
  have hl2 := h.l2
  have hr1 := h.r1
  have hr2 := h.r2
  obtain ⟨hw1, hw2⟩ := wid_eq h
  have HLT := Lib.hid (fun a b (h1 : ((a : Nat) : Int) ≤ 2 * l) h2 => st_lt h hN (b := b) h1 h2)
  have HAL := Lib.hid (fun a (h1 : ((a : Nat) : Int) = 2 * l + 1) => st_all h hN h1)
  have v1 : IntKind.i64.wrap (-l) = -l := IntWalk.i64_in _ (by omega)
  have v2 : IntKind.i64.wrap (-r) = -r := IntWalk.i64_in _ (by omega)
  have HSZ := Lib.hid (siz_bd h)
  clear hP h
  refine callsIn_of_wp Try.func62 rfl trivial ?_ hro
  simp only [Try.ntmps62, List.size_toArray, List.length_cons, List.length_nil, Nat.reduceAdd, Nat.reduceSub, Array.replicate_succ, Array.replicate_zero, List.push_toArray, List.append_toArray, List.nil_append, List.cons_append]
  gi_wp2
  clear x0 x1 x2 x3
  gi_loopw [3, 4, 5] (fun i e q wr => ∃ (a : Nat) (k : Nat) (h : k ≤ N) (v : Value), k = a * wid r ∧ (a : Int) ≤ 2 * l + 1 ∧ i = .int .i64 (k : Int) ∧ e = .int .i64 ((a : Int) - l) ∧ q = v ∧ Hid (PlAt wr Bp l r s z) ∧ J (fl N k h) wr) (fun _ e _ _ => 200 - (intOf e + l).toNat)
  case atStart => exact ⟨0, 0, Nat.zero_le _, _, by simp, by omega, rfl, by simp, rfl, HP0, hJ0⟩
  case round =>
    obtain ⟨a, k, hk, v, hka, ha, rfl, rfl, rfl, HP, hJk⟩ := hrel
    obtain ⟨x0, x1, x2, x3⟩ := HP.out.c
    have zx := cell_lt x0
    by_cases hlt : (a : Int) ≤ 2 * l
    · have hle : (a : Int) - l ≤ l := by omega
      gi_wp2
      clear x0 x1 x2 x3 zx
      gi_loopw [3, 5] (fun i q wr => ∃ (b : Nat) (k : Nat) (h : k ≤ N), k = a * wid r + b ∧ b ≤ wid r ∧ i = .int .i64 (k : Int) ∧ q = .int .i64 ((b : Int) - r) ∧ Hid (PlAt wr Bp l r s z) ∧ J (fl N k h) wr) (fun _ q _ => 200 - (intOf q + r).toNat)
      case atStart => exact ⟨0, k, hk, hka, by omega, rfl, by simp, HP, hJk⟩
      case round =>
        obtain ⟨b, k, hk, hkb, hb, rfl, rfl, HP, hJk⟩ := hrel
        obtain ⟨x0, x1, x2, x3⟩ := HP.out.c
        have zx := cell_lt x0
        by_cases hlb : b < wid r
        · have hle2 : (b : Int) - r ≤ r := by omega
          have vk : IntKind.i64.wrap ((b : Int) - r + 1) = ((b + 1 : Nat) : Int) - r := by rw [IntWalk.i64_in _ (by omega)]; omega
          have HB := Lib.hid hlb
          have HA := Lib.hid hlt
          have HKN := Lib.hid (show k < N by rw [hkb]; exact HLT.out a b hlt hlb)
          have hs := HSZ.out
          have vi : IntKind.i64.wrap ((k : Int) + 1) = ((k + 1 : Nat) : Int) := by rw [IntWalk.i64_in _ (by have := HKN.out; omega)]; omega
          have HKB := Lib.hid hkb
          obtain ⟨fn, tmps, assign, body, hy, hR⟩ := hY (fl N k hk) ⟨k, HKN.out⟩ wr hJk (by rw [fl_len]; exact HKN.out)
          unfold encS stE stQ at hy
          dsimp only at hy
          obtain ⟨d1, d2⟩ := st_div (r := r) (a := a) hlb
          rw [← hkb] at d1 d2
          rw [d1, d2] at hy
          clear hs d1 d2 hkb hlb
          gi_wp2
          clear x0 x1 x2 x3 zx
          refine hR.mono ?_
          rintro e W3 (⟨rfl, hJ3, hk3⟩ | ⟨rfl, hJx3⟩)
          · have HP3 := Lib.hid (HP.out.kp hk3 hf)
            clear hy hR hk3
            gi_wp2
            go_roundw
            case rel => exact ⟨b + 1, k + 1, HKN.out, by have := HKB.out; omega, HB.out, rfl, rfl, HP3, hJ3⟩
            case measure => have := HB.out; simp [intOf]; omega
          · clear hy hR
            gi_wp2
            refine bodyPost_ret (results_none rfl _ _ _) rfl ?_
            exact ⟨⟨_, rfl⟩, .inr ⟨_, fl_prefix N (k := k + 1) HKN.out (Nat.le_refl _) HKN.out, hJx3⟩⟩
        · have hle2 : ¬ ((b : Int) - r ≤ r) := by omega
          obtain rfl : b = wid r := by omega
          have va : IntKind.i64.wrap ((a : Int) - l + 1) = ((a + 1 : Nat) : Int) - l := by rw [IntWalk.i64_in _ (by omega)]; omega
          have HA := Lib.hid hlt
          gi_wp2
          go_roundw
          case rel => exact ⟨a + 1, k, hk, _, by rw [hkb, Nat.succ_mul], by have := HA.out; omega, rfl, rfl, rfl, HP, hJk⟩
          case measure => have := HA.out; simp [intOf]; omega
    · have hle : ¬ ((a : Int) - l ≤ l) := by omega
      obtain rfl : k = N := by rw [hka]; exact HAL.out a (by omega)
      clear hka
      gi_wp2
      go_end0
      exact ⟨⟨_, rfl⟩, .inl hJk⟩
theorem states1_stops (n Bp : Nat) (l r s z : Int) (h : PlanOk l r s z) (N : Nat) (hN : sizP l r = (N : Int)) (f : Nat → TypeId → Prop) (hf : f Bp 27) (hn : 1 ≤ n) (w : World) (hP : PlAt w Bp l r s z) :
    SeqStopsK Fence.wide n Try.prog 62 #[.pointer (some ⟨Bp, 0, none⟩)] (encS l r) (KpF f)
      (fun ys => ys = fl N N (Nat.le_refl _)) (fun pre => pre <+: fl N N (Nat.le_refl _)) N w := by
  intro lp J Jx W hW _ _ hY hJ0
  exact states1_in n lp Bp l r s z h N hN f hf hn J Jx W hY (hP.below hW) hJ0
end Go.Proofs.Ytiapimfmnmegpaa.St
