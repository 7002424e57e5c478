/- Plain facts for WorldOrders: readings increase, and Back of a reading is its second. -/
import Derived.Test.YtehjkmnamgafaaaDoorHoldsPlain
namespace Go.Proofs.YtehjkmnamgafaaaDoor
open Go Go.RowKit
/-- is a moment before another one? -/
def beforeS (a b c d : Int) : Bool := decide (a < c) || (a == c && decide (b < d))
/-- a moment's femtoseconds since the first second -/
def totalS (a b : Int) : Int := a * 1000000000000000 + b
theorem before_iff {a b c d : Int} (h1 : 0 ≤ b ∧ b < 1000000000000000) (h2 : 0 ≤ d ∧ d < 1000000000000000) : beforeS a b c d = decide (totalS a b < totalS c d) := by
  unfold beforeS totalS
  rw [Bool.eq_iff_iff]
  simp only [Bool.or_eq_true, Bool.and_eq_true, decide_eq_true_eq, beq_iff_eq]
  omega
theorem after_iff {a b c d : Int} (h1 : 0 ≤ b ∧ b < 1000000000000000) (h2 : 0 ≤ d ∧ d < 1000000000000000) : afterS a b c d = decide (totalS c d < totalS a b) := by
  unfold afterS totalS
  rw [Bool.eq_iff_iff]
  simp only [Bool.or_eq_true, Bool.and_eq_true, decide_eq_true_eq, beq_iff_eq]
  omega
theorem readFs_bd (sh : Int) : 0 ≤ readFs sh ∧ readFs sh < 1000000000000000 := by unfold readFs; omega
theorem read_total (s sh : Int) : totalS (readSec s sh) (readFs sh) = s * 1000000000000000 + sh := by unfold totalS readSec readFs; omega
theorem backFrom_at {late : Int → Bool} {a : Int} (h0 : 0 ≤ a) (ha : late a = false) : ∀ (n : Nat), a < n → (∀ t, a < t → t < n → late t = true) → backFrom late n = some a
  | 0, h, _ => by omega
  | n + 1, h, hl => by
    unfold backFrom
    by_cases e : a = n
    · subst e; rw [if_pos ha]
    · have hn : late (n : Int) = true := hl n (by omega) (by omega)
      rw [hn, if_neg (by decide)]
      exact backFrom_at h0 ha n (by omega) fun t h1 h2 => hl t h1 (by omega)
theorem backFrom_lt {late : Int → Bool} {a : Int} : ∀ (n : Nat), (∀ t, a ≤ t → t < n → late t = true) → ∀ t, backFrom late n = some t → 0 ≤ t ∧ t < a ∧ t < n
  | 0, _, t, h => by simp [backFrom] at h
  | n + 1, hl, t, h => by
    unfold backFrom at h
    by_cases e : late (n : Int) = false
    · rw [if_pos e] at h
      obtain rfl := Option.some.inj h
      refine ⟨by omega, ?_, by omega⟩
      by_cases hlt : (n : Int) < a
      · exact hlt
      · have := hl n (by omega) (by omega); rw [this] at e; cases e
    · rw [if_neg e] at h
      have := backFrom_lt n (fun t h1 h2 => hl t h1 (by omega)) t h
      omega
theorem lastStep_le (c : Clk) (s : Int) (e : Evt) : lastStep c s e ≤ s := by unfold lastStep; split <;> omega
theorem lastFold_le (c : Clk) : ∀ (l : List Evt) (s : Int), l.foldl (lastStep c) s ≤ s
  | [], _ => Int.le_refl _
  | e :: l, s => Int.le_trans (lastFold_le c l (lastStep c s e)) (lastStep_le c s e)
theorem lastFold_same (c : Clk) (s : Int) (h : runsS c s = true) : ∀ (l : List Evt), l.foldl (lastStep c) s = s
  | [] => rfl
  | e :: l => by
    have : lastStep c s e = s := by unfold lastStep; rw [h]; simp
    rw [List.foldl_cons, this]; exact lastFold_same c s h l
theorem lastS_le (c : Clk) (s : Int) : lastS c s ≤ s := lastFold_le c _ s
theorem lastS_same (c : Clk) (s : Int) (h : runsS c s = true) : lastS c s = s := lastFold_same c s h _
/-- a second of a clock at which it is read -/
structure Readable (W : Wld) (k s : Int) : Prop where
  run : runErr W k s = 0
theorem read_ok {W : Wld} {k s : Int} (h : (readE W k s).e = 0) : Readable W k s := by
  refine ⟨?_⟩
  by_cases hr : runErr W k s = 0
  · exact hr
  · have es : readE W k s = ⟨0, 0, runErr W k s⟩ := if_neg hr
    rw [es] at h; exact h
theorem Readable.eq {W : Wld} {k s : Int} (h : Readable W k s) : readE W k s = ⟨readSec s (shownS W.seed k (clkOf W k) (roomOf W k) s), readFs (shownS W.seed k (clkOf W k) (roomOf W k) s), 0⟩ := if_pos h.run
theorem Readable.bd {W : Wld} {k s : Int} (h : Readable W k s) : (0 ≤ s ∧ s ≤ 1000000) ∧ -382000000000000 ≤ shownS W.seed k (clkOf W k) (roomOf W k) s ∧ shownS W.seed k (clkOf W k) (roomOf W k) s ≤ 382000000000000 := by
  have hf := (runErr_zero h.run).1
  have al := allowed_find hf
  have hs := sec_of hf
  exact ⟨hs, shown_bd W.seed k al.cin al.rok s hs.1 hs.2⟩
/-- what is asked of two readings -/
structure Ordered (a b : Int) (m n : PairErr) : Prop where
  ma : -9000000 ≤ m.a ∧ m.a ≤ 9000000
  m1 : 0 ≤ m.b ∧ m.b < 1000000000000000
  n1 : 0 ≤ n.b ∧ n.b < 1000000000000000
  up : beforeS m.a m.b n.a n.b = decide (a < b)
  down : beforeS n.a n.b m.a m.b = decide (b < a)
theorem orders_read {W : Wld} {k a b : Int} (ha : (readE W k a).e = 0) (hb : (readE W k b).e = 0) : Ordered a b (readE W k a) (readE W k b) := by
  have ra := read_ok ha
  have rb := read_ok hb
  have ea := ra.eq
  have eb := rb.eq
  have da := ra.bd
  have db := rb.bd
  rw [ea, eb]
  have hxy : a = b → shownS W.seed k (clkOf W k) (roomOf W k) a = shownS W.seed k (clkOf W k) (roomOf W k) b := by rintro rfl; rfl
  generalize shownS W.seed k (clkOf W k) (roomOf W k) a = x at *
  generalize shownS W.seed k (clkOf W k) (roomOf W k) b = y at *
  have fx := readFs_bd x
  have fy := readFs_bd y
  refine ⟨?_, fx, fy, ?_, ?_⟩
  · show -9000000 ≤ readSec a x ∧ readSec a x ≤ 9000000
    unfold readSec; omega
  · show beforeS (readSec a x) (readFs x) (readSec b y) (readFs y) = _
    rw [before_iff fx fy, read_total, read_total, decide_eq_decide]; omega
  · show beforeS (readSec b y) (readFs y) (readSec a x) (readFs x) = _
    rw [before_iff fy fx, read_total, read_total, decide_eq_decide]; omega
theorem late_iff (seed k : Int) (c : Clk) (r : Cham) (ms mf t : Int) (h : 0 ≤ mf ∧ mf < 1000000000000000) : lateS seed k c r ms mf t = decide (totalS ms mf < t * 1000000000000000 + shownS seed k c r t) := by
  unfold lateS
  rw [after_iff (readFs_bd _) h, read_total]
theorem back_ok {W : Wld} {k s mf : Int} (h : Readable W k s) (hm : 0 ≤ mf ∧ mf < 1000000000000000) : backErr W k mf = 0 := by
  obtain ⟨h1, h2, _⟩ := findErr_zero (runErr_zero h.run).1
  have h3 : findErr W k [] = 0 := by unfold findErr; rw [if_pos h1, if_pos h2]; rfl
  have h4 : inR mf 0 999999999999999 = true := (inR_iff _ _ _).2 (by omega)
  unfold backErr
  rw [if_pos h3, if_pos h4]
/-- Back of a reading is its second -/
theorem orders_back {W : Wld} {k a : Int} (ha : (readE W k a).e = 0) : backE W k (readE W k a).a (readE W k a).b = ⟨a, 0⟩ := by
  have ra := read_ok ha
  have hf := (runErr_zero ra.run).1
  have hr := (runErr_zero ra.run).2
  have al := allowed_find hf
  have da := ra.bd
  rw [ra.eq]
  have fx := readFs_bd (shownS W.seed k (clkOf W k) (roomOf W k) a)
  show backE W k (readSec a (shownS W.seed k (clkOf W k) (roomOf W k) a)) (readFs (shownS W.seed k (clkOf W k) (roomOf W k) a)) = ⟨a, 0⟩
  unfold backE
  rw [if_pos (back_ok ra fx)]
  unfold backS
  have hl : ∀ t, lateS W.seed k (clkOf W k) (roomOf W k) (readSec a (shownS W.seed k (clkOf W k) (roomOf W k) a)) (readFs (shownS W.seed k (clkOf W k) (roomOf W k) a)) t
      = decide (a * 1000000000000000 + shownS W.seed k (clkOf W k) (roomOf W k) a < t * 1000000000000000 + shownS W.seed k (clkOf W k) (roomOf W k) t) := fun t => by
    rw [late_iff _ _ _ _ _ _ _ fx, read_total]
  have hcap : capS (readSec a (shownS W.seed k (clkOf W k) (roomOf W k) a)) + 1 ≤ 1000000 ∧ a < capS (readSec a (shownS W.seed k (clkOf W k) (roomOf W k) a)) + 1 + 1 := by
    unfold capS readSec; split <;> omega
  rw [backFrom_at (a := a) da.1.1 (by rw [hl]; simp) _ (by omega) (fun t h1 h2 => by
    have st := shown_bd W.seed k al.cin al.rok t (by omega) (by omega)
    rw [hl]; simp only [decide_eq_true_eq]; omega)]
  show (⟨lastS (clkOf W k) a, 0⟩ : IntErr) = ⟨a, 0⟩
  rw [lastS_same _ _ hr]
/-- Back of a moment before a reading is before its second, or there is none -/
def Earlier (a : Int) (x : IntErr) : Prop := (x.e = 0 ∧ x.v < a) ∨ x.e = 4
theorem orders_less {W : Wld} {k a : Int} (ha : (readE W k a).e = 0) (hp : 0 < (readE W k a).b) : Earlier a (backE W k (readE W k a).a ((readE W k a).b - 1)) := by
  have ra := read_ok ha
  have hf := (runErr_zero ra.run).1
  have al := allowed_find hf
  have da := ra.bd
  rw [ra.eq] at hp ⊢
  have fx := readFs_bd (shownS W.seed k (clkOf W k) (roomOf W k) a)
  have hp' : 0 < readFs (shownS W.seed k (clkOf W k) (roomOf W k) a) := hp
  show Earlier a (backE W k (readSec a (shownS W.seed k (clkOf W k) (roomOf W k) a)) (readFs (shownS W.seed k (clkOf W k) (roomOf W k) a) - 1))
  unfold backE
  rw [if_pos (back_ok ra (by omega))]
  unfold backS
  have hl : ∀ t, lateS W.seed k (clkOf W k) (roomOf W k) (readSec a (shownS W.seed k (clkOf W k) (roomOf W k) a)) (readFs (shownS W.seed k (clkOf W k) (roomOf W k) a) - 1) t
      = decide (a * 1000000000000000 + shownS W.seed k (clkOf W k) (roomOf W k) a - 1 < t * 1000000000000000 + shownS W.seed k (clkOf W k) (roomOf W k) t) := fun t => by
    rw [late_iff _ _ _ _ _ _ _ (by omega)]
    have := read_total a (shownS W.seed k (clkOf W k) (roomOf W k) a)
    rw [decide_eq_decide]
    unfold totalS at this ⊢
    omega
  have hcap : capS (readSec a (shownS W.seed k (clkOf W k) (roomOf W k) a)) + 1 ≤ 1000000 := by
    unfold capS readSec; split <;> omega
  generalize hb : backFrom _ _ = o
  cases o with
  | none => exact .inr rfl
  | some t =>
    have := backFrom_lt (a := a) _ (fun t h1 h2 => by
      have st := shown_bd W.seed k al.cin al.rok t (by omega) (by omega)
      rw [hl]; simp only [decide_eq_true_eq]
      by_cases e : t = a
      · subst e; omega
      · omega) t hb
    have hle := lastS_le (clkOf W k) t
    exact .inl ⟨rfl, by show lastS (clkOf W k) t < a; omega⟩
end Go.Proofs.YtehjkmnamgafaaaDoor
