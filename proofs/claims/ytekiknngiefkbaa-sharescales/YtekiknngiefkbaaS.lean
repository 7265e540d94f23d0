/- Plain mathematics of the stable sort: ranges that rise by a key, two of them merged by an exchange of parts, one element put in its place. -/
import Derived.Sort.LotA
namespace Go.Proofs.Ytekiknngiefkbaa
open Go.Sort
variable {α : Type} [Inhabited α]

theorem at_eq (d : Array α) {i j : Nat} (h : i = j) : d[i]! = d[j]! := by rw [h]

/-- the range a ≤ i < b rises by the key -/
def Up (key : α → Int) (d : Array α) (a b : Nat) : Prop := ∀ i j, a ≤ i → i ≤ j → j < b → key d[i]! ≤ key d[j]!
/-- between the two ranges 'less' says what the key says -/
def Crs (lt : α → α → Bool) (key : α → Int) (d : Array α) (a m b : Nat) : Prop := ∀ i j, a ≤ i → i < m → m ≤ j → j < b → lt d[j]! d[i]! = decide (key d[j]! < key d[i]!)
/-- within the range, of any two 'less' asked of the later one says what the key says -/
def Fwd (lt : α → α → Bool) (key : α → Int) (d : Array α) (a b : Nat) : Prop := ∀ i j, a ≤ i → i < j → j < b → lt d[j]! d[i]! = decide (key d[j]! < key d[i]!)

/-- two ranges of n exchanged -/
def Swr (d d' : Array α) (a b n : Nat) : Prop :=
  d'.size = d.size ∧ (∀ t, a ≤ t → t < a + n → d'[t]! = d[t + (b - a)]!) ∧ (∀ t, b ≤ t → t < b + n → d'[t]! = d[t - (b - a)]!) ∧ (∀ t, (t < a ∨ a + n ≤ t) → (t < b ∨ b + n ≤ t) → d'[t]! = d[t]!)

theorem swr_refl (d : Array α) (a b : Nat) : Swr d d a b 0 := ⟨rfl, fun t _ _ => by omega, fun t _ _ => by omega, fun _ _ _ => rfl⟩

theorem swr_step {d dk : Array α} {a b k : Nat} (h : Swr d dk a b k) (hab : a + k < b) (hb : b + k < d.size) : Swr d (swp dk (a + k) (b + k)) a b (k + 1) := by
  obtain ⟨h0, h1, h2, h3⟩ := h
  refine ⟨by rw [size_swp]; exact h0, ?_, ?_, ?_⟩
  · intro t ht1 ht2
    by_cases e : t = a + k
    · subst e
      rw [swp_left dk _ _ (by omega) (by omega), h3 (b + k) (by omega) (by omega)]
      exact at_eq d (by omega)
    · rw [swp_other dk _ _ t (by omega) (by omega)]; exact h1 t ht1 (by omega)
  · intro t ht1 ht2
    by_cases e : t = b + k
    · subst e
      rw [swp_right dk _ _ (by omega), h3 (a + k) (by omega) (by omega)]
      exact at_eq d (by omega)
    · rw [swp_other dk _ _ t (by omega) (by omega)]; exact h2 t ht1 (by omega)
  · intro t ht1 ht2
    rw [swp_other dk _ _ t (by omega) (by omega)]; exact h3 t (by omega) (by omega)

/-- the ranges [s, m) and [m, e) have changed places -/
def Rot (d d' : Array α) (s m e : Nat) : Prop :=
  d'.size = d.size ∧ (∀ t, s ≤ t → t < s + (e - m) → d'[t]! = d[t + (m - s)]!) ∧ (∀ t, s + (e - m) ≤ t → t < e → d'[t]! = d[t - (e - m)]!) ∧ (∀ t, t < s ∨ e ≤ t → d'[t]! = d[t]!)

theorem rot_swr {d d' : Array α} {m i : Nat} (h : Swr d d' (m - i) m i) (him : i ≤ m) : Rot d d' (m - i) m (m + i) := by
  obtain ⟨h0, h1, h2, h3⟩ := h
  refine ⟨h0, fun t a b => ?_, fun t a b => ?_, fun t a => h3 t (by omega) (by omega)⟩
  · exact h1 t a (by omega)
  · rw [h2 t (by omega) (by omega)]; exact at_eq d (by omega)

theorem rot_left {d d' X : Array α} {m i j : Nat} (h : Swr d d' (m - i) m j) (him : i ≤ m) (hij : j < i) (hX : Rot d' X (m - (i - j)) m (m + j)) : Rot d X (m - i) m (m + j) := by
  obtain ⟨h0, h1, h2, h3⟩ := h
  obtain ⟨x0, x1, x2, x3⟩ := hX
  refine ⟨x0.trans h0, fun t a b => ?_, fun t a b => ?_, fun t a => ?_⟩
  · rw [x3 t (by omega), h1 t (by omega) (by omega)]
  · by_cases c : t < m - (i - j) + (m + j - m)
    · rw [x1 t (by omega) c, h2 _ (by omega) (by omega)]; exact at_eq d (by omega)
    · rw [x2 t (by omega) (by omega), h3 _ (by omega) (by omega)]
  · rw [x3 t (by omega), h3 t (by omega) (by omega)]

theorem rot_right {d d' X : Array α} {m i j : Nat} (h : Swr d d' (m - i) (m + j - i) i) (him : i ≤ m) (hij : i < j) (hX : Rot d' X (m - i) m (m + (j - i))) : Rot d X (m - i) m (m + j) := by
  obtain ⟨h0, h1, h2, h3⟩ := h
  obtain ⟨x0, x1, x2, x3⟩ := hX
  refine ⟨x0.trans h0, fun t a b => ?_, fun t a b => ?_, fun t a => ?_⟩
  · by_cases c : t < m - i + (m + (j - i) - m)
    · rw [x1 t (by omega) c, h3 _ (by omega) (by omega)]
    · rw [x2 t (by omega) (by omega), h1 _ (by omega) (by omega)]; exact at_eq d (by omega)
  · rw [x3 t (by omega), h2 _ (by omega) (by omega)]; exact at_eq d (by omega)
  · rw [x3 t (by omega), h3 t (by omega) (by omega)]

theorem rot_none_left (d : Array α) (m e : Nat) : Rot d d m m e :=
  ⟨rfl, fun t _ _ => at_eq d (by omega), fun t _ _ => by omega, fun _ _ => rfl⟩
theorem rot_none_right (d : Array α) (s m : Nat) : Rot d d s m m :=
  ⟨rfl, fun t _ _ => by omega, fun t _ _ => at_eq d (by omega), fun _ _ => rfl⟩

/-- the element at i moved down to j, those between one up -/
def Dwn (d d' : Array α) (j i : Nat) : Prop :=
  d'.size = d.size ∧ d'[j]! = d[i]! ∧ (∀ t, j < t → t ≤ i → d'[t]! = d[t - 1]!) ∧ (∀ t, t < j ∨ i < t → d'[t]! = d[t]!)
theorem dwn_refl (d : Array α) (i : Nat) : Dwn d d i i := ⟨rfl, rfl, fun t _ _ => by omega, fun _ _ => rfl⟩
theorem dwn_step {d dj : Array α} {j i : Nat} (h : Dwn d dj (j + 1) i) (hj : j + 1 ≤ i) (hi : i < d.size) : Dwn d (swp dj (j + 1) j) j i := by
  obtain ⟨h0, h1, h2, h3⟩ := h
  refine ⟨by rw [size_swp]; exact h0, ?_, ?_, ?_⟩
  · rw [swp_right dj _ _ (by omega)]; exact h1
  · intro t ht1 ht2
    by_cases e : t = j + 1
    · subst e
      rw [swp_left dj _ _ (by omega) (by omega), h3 j (by omega)]; exact at_eq d (by omega)
    · rw [swp_other dj _ _ t (by omega) (by omega)]; exact h2 t (by omega) ht2
  · intro t ht
    rw [swp_other dj _ _ t (by omega) (by omega)]; exact h3 t (by omega)
theorem dwn_up {key : α → Int} {d d' : Array α} {a j i : Nat} (h : Dwn d d' j i) (haj : a ≤ j) (hji : j ≤ i) (hu : Up key d a i)
    (hlo : ∀ t, a ≤ t → t < j → key d[t]! ≤ key d[i]!) (hhi : ∀ t, j ≤ t → t < i → key d[i]! ≤ key d[t]!) : Up key d' a (i + 1) := by
  obtain ⟨h0, h1, h2, h3⟩ := h
  have g : ∀ t, a ≤ t → t ≤ i → (t < j ∧ d'[t]! = d[t]!) ∨ (t = j ∧ d'[t]! = d[i]!) ∨ (j < t ∧ d'[t]! = d[t - 1]!) := by
    intro t _ ht
    by_cases c : t < j
    · exact .inl ⟨c, h3 t (.inl c)⟩
    · by_cases c2 : t = j
      · exact .inr (.inl ⟨c2, c2 ▸ h1⟩)
      · exact .inr (.inr ⟨by omega, h2 t (by omega) ht⟩)
  intro p q hp hpq hq
  rcases g p hp (by omega) with ⟨c1, e1⟩ | ⟨c1, e1⟩ | ⟨c1, e1⟩ <;> rcases g q (by omega) (by omega) with ⟨c2, e2⟩ | ⟨c2, e2⟩ | ⟨c2, e2⟩ <;> rw [e1, e2]
  · exact hu p q hp hpq (by omega)
  · exact hlo p hp c1
  · exact hu p (q - 1) hp (by omega) (by omega)
  · omega
  · exact Int.le_refl _
  · exact hhi (q - 1) (by omega) (by omega)
  · omega
  · omega
  · exact hu (p - 1) (q - 1) (by omega) (by omega) (by omega)

/-- the element at a moved up to k, those between one down -/
def Upw (d d' : Array α) (a k : Nat) : Prop :=
  d'.size = d.size ∧ d'[k]! = d[a]! ∧ (∀ t, a ≤ t → t < k → d'[t]! = d[t + 1]!) ∧ (∀ t, t < a ∨ k < t → d'[t]! = d[t]!)
theorem upw_refl (d : Array α) (a : Nat) : Upw d d a a := ⟨rfl, rfl, fun t _ _ => by omega, fun _ _ => rfl⟩
theorem upw_step {d dj : Array α} {a k : Nat} (h : Upw d dj a k) (hj : a ≤ k) (hi : k + 1 < d.size) : Upw d (swp dj k (k + 1)) a (k + 1) := by
  obtain ⟨h0, h1, h2, h3⟩ := h
  refine ⟨by rw [size_swp]; exact h0, ?_, ?_, ?_⟩
  · rw [swp_right dj _ _ (by omega)]; exact h1
  · intro t ht1 ht2
    by_cases e : t = k
    · subst e
      rw [swp_left dj _ _ (by omega) (by omega), h3 _ (by omega)]
    · rw [swp_other dj _ _ t (by omega) (by omega)]; exact h2 t ht1 (by omega)
  · intro t ht
    rw [swp_other dj _ _ t (by omega) (by omega)]; exact h3 t (by omega)
theorem upw_up {key : α → Int} {d d' : Array α} {a k b : Nat} (h : Upw d d' a k) (hak : a ≤ k) (hkb : k < b) (hu : Up key d (a + 1) b)
    (hlo : ∀ t, a < t → t ≤ k → key d[t]! ≤ key d[a]!) (hhi : ∀ t, k < t → t < b → key d[a]! ≤ key d[t]!) : Up key d' a b := by
  obtain ⟨h0, h1, h2, h3⟩ := h
  have g : ∀ t, a ≤ t → t < b → (t < k ∧ d'[t]! = d[t + 1]!) ∨ (t = k ∧ d'[t]! = d[a]!) ∨ (k < t ∧ d'[t]! = d[t]!) := by
    intro t ht1 ht
    by_cases c : t < k
    · exact .inl ⟨c, h2 t ht1 c⟩
    · by_cases c2 : t = k
      · exact .inr (.inl ⟨c2, c2 ▸ h1⟩)
      · exact .inr (.inr ⟨by omega, h3 t (by omega)⟩)
  intro p q hp hpq hq
  rcases g p hp (by omega) with ⟨c1, e1⟩ | ⟨c1, e1⟩ | ⟨c1, e1⟩ <;> rcases g q (by omega) (by omega) with ⟨c2, e2⟩ | ⟨c2, e2⟩ | ⟨c2, e2⟩ <;> rw [e1, e2]
  · exact hu (p + 1) (q + 1) (by omega) (by omega) (by omega)
  · exact hlo (p + 1) (by omega) (by omega)
  · exact hu (p + 1) q (by omega) (by omega) (by omega)
  · omega
  · exact Int.le_refl _
  · exact hhi q (by omega) (by omega)
  · omega
  · omega
  · exact hu p q (by omega) (by omega) (by omega)

/-- what symMerge's search has found -/
structure Found (key : α → Int) (d : Array α) (a m b s mid e : Nat) : Prop where
  hmid : mid = (a + b) / 2
  he : e = mid + m - s
  has : a ≤ s
  hsm : s ≤ m
  hsd : s ≤ mid
  hme : m ≤ e
  hde : mid ≤ e
  heb : e ≤ b
  /-- the last of the first part is not above the first of the fourth -/
  h14 : a < s → e < b → key d[s - 1]! ≤ key d[e]!
  /-- the last of the third part is not above the first of the second -/
  h32 : s < m → m < e → key d[e - 1]! ≤ key d[s]!

/-- behind the exchange of the middle parts: both halves are two ranges that rise, and no one of the first half is above one of the second. -/
theorem found_halves {lt : α → α → Bool} {key : α → Int} {d d1 : Array α} {a m b s mid e : Nat} (F : Found key d a m b s mid e) (hR : Rot d d1 s m e)
    (u1 : Up key d a m) (u2 : Up key d m b) (hX : Crs lt key d a m b) :
    Up key d1 a s ∧ Up key d1 s mid ∧ Up key d1 mid e ∧ Up key d1 e b ∧ Crs lt key d1 a s mid ∧ Crs lt key d1 mid e b ∧ ∀ i j, a ≤ i → i < mid → mid ≤ j → j < b → key d1[i]! ≤ key d1[j]! := by
  obtain ⟨hmid, he, has, hsm, hsd, hme, hde, heb, h14, h32⟩ := F
  obtain ⟨r0, r1, r2, r3⟩ := hR
  have g1 : ∀ t, a ≤ t → t < s → d1[t]! = d[t]! := fun t _ h => r3 t (.inl h)
  have g2 : ∀ t, s ≤ t → t < mid → d1[t]! = d[t + (m - s)]! := fun t h1 h2 => r1 t h1 (by omega)
  have g3 : ∀ t, mid ≤ t → t < e → d1[t]! = d[t - (e - m)]! := fun t h1 h2 => r2 t (by omega) h2
  have g4 : ∀ t, e ≤ t → t < b → d1[t]! = d[t]! := fun t h _ => r3 t (.inr h)
  have lo14 : ∀ i j, a ≤ i → i < s → e ≤ j → j < b → key d[i]! ≤ key d[j]! := by
    intro i j p1 p2 p3 p4
    have q1 := h14 (by omega) (by omega)
    have q2 := u1 i (s - 1) p1 (by omega) (by omega)
    have q3 := u2 e j (by omega) p3 p4
    omega
  have lo32 : ∀ i j, m ≤ i → i < e → s ≤ j → j < m → key d[i]! ≤ key d[j]! := by
    intro i j p1 p2 p3 p4
    have q1 := h32 (by omega) (by omega)
    have q2 := u2 i (e - 1) p1 (by omega) (by omega)
    have q3 := u1 s j (by omega) p3 p4
    omega
  refine ⟨?_, ?_, ?_, ?_, ?_, ?_, ?_⟩
  · intro i j p1 p2 p3
    rw [g1 i p1 (by omega), g1 j (by omega) p3]; exact u1 i j p1 p2 (by omega)
  · intro i j p1 p2 p3
    rw [g2 i p1 (by omega), g2 j (by omega) p3]; exact u2 _ _ (by omega) (by omega) (by omega)
  · intro i j p1 p2 p3
    rw [g3 i p1 (by omega), g3 j (by omega) p3]; exact u1 _ _ (by omega) (by omega) (by omega)
  · intro i j p1 p2 p3
    rw [g4 i p1 (by omega), g4 j (by omega) p3]; exact u2 _ _ (by omega) (by omega) (by omega)
  · intro i j p1 p2 p3 p4
    rw [g1 i p1 p2, g2 j p3 p4]; exact hX _ _ p1 (by omega) (by omega) (by omega)
  · intro i j p1 p2 p3 p4
    rw [g3 i p1 p2, g4 j p3 p4]; exact hX _ _ (by omega) (by omega) (by omega) p4
  · intro i j p1 p2 p3 p4
    by_cases c1 : i < s
    · rw [g1 i p1 c1]
      by_cases c2 : j < e
      · rw [g3 j p3 c2]; exact u1 _ _ p1 (by omega) (by omega)
      · rw [g4 j (by omega) p4]; exact lo14 _ _ p1 c1 (by omega) p4
    · rw [g2 i (by omega) p2]
      by_cases c2 : j < e
      · rw [g3 j p3 c2]; exact lo32 _ _ (by omega) (by omega) (by omega) (by omega)
      · rw [g4 j (by omega) p4]; exact u2 _ _ (by omega) (by omega) p4

/-- what is asked of a merge's answer -/
def Mgd (key : α → Int) (d d' : Array α) (a b : Nat) : Prop := PermIn a b d d' ∧ Up key d' a b

theorem up_same {key : α → Int} {d d' : Array α} {a b : Nat} (h : Up key d a b) (e : ∀ t, a ≤ t → t < b → d'[t]! = d[t]!) : Up key d' a b :=
  fun i j h1 h2 h3 => by rw [e i h1 (by omega), e j (by omega) h3]; exact h i j h1 h2 h3
theorem crs_same {lt : α → α → Bool} {key : α → Int} {d d' : Array α} {a m b : Nat} (h : Crs lt key d a m b) (e : ∀ t, a ≤ t → t < b → d'[t]! = d[t]!) : Crs lt key d' a m b :=
  fun i j h1 h2 h3 h4 => by rw [e i h1 (by omega), e j (by omega) h4]; exact h i j h1 h2 h3 h4

/-- both halves merged: the whole is -/
theorem halves_up {key : α → Int} {d1 d2 d3 : Array α} {a mid b : Nat} (hb : b ≤ d1.size) (h1 : Mgd key d1 d2 a mid) (h2 : Mgd key d2 d3 mid b)
    (hlh : ∀ i j, a ≤ i → i < mid → mid ≤ j → j < b → key d1[i]! ≤ key d1[j]!) : Up key d3 a b := by
  obtain ⟨p1, u1⟩ := h1
  obtain ⟨p2, u2⟩ := h2
  have s2 : d2.size = d1.size := p1.1
  have a1 : ∀ i j, a ≤ i → i < mid → mid ≤ j → j < b → key d2[i]! ≤ key d1[j]! := by
    intro i j q1 q2 q3 q4
    exact permIn_all d1 d2 a mid (fun x => key x ≤ key d1[j]!) (by omega) p1 (fun t t1 t2 => hlh t j t1 t2 q3 q4) i q1 q2
  have a2 : ∀ i j, a ≤ i → i < mid → mid ≤ j → j < b → key d2[i]! ≤ key d3[j]! := by
    intro i j q1 q2 q3 q4
    refine permIn_all d2 d3 mid b (fun x => key d2[i]! ≤ key x) (by omega) p2 (fun t t1 t2 => ?_) j q3 q4
    rw [p1.2.1 t (.inr t1)]
    exact a1 i t q1 q2 t1 t2
  intro i j q1 q2 q3
  by_cases c1 : j < mid
  · rw [p2.2.1 i (.inl (by omega)), p2.2.1 j (.inl c1)]; exact u1 i j q1 q2 c1
  · by_cases c2 : i < mid
    · rw [p2.2.1 i (.inl c2)]; exact a2 i j q1 c2 (by omega) q3
    · exact u2 i j (by omega) q2 q3

/-- a block: it rises by the key, and holds labels of its own range alone -/
def Blk (key : α → Int) (lab : α → Nat) (d : Array α) (lo hi : Nat) : Prop := Up key d lo hi ∧ ∀ t, lo ≤ t → t < hi → lo ≤ lab d[t]! ∧ lab d[t]! < hi

theorem blk_same {key : α → Int} {lab : α → Nat} {d d' : Array α} {lo hi : Nat} (h : Blk key lab d lo hi) (e : ∀ t, lo ≤ t → t < hi → d'[t]! = d[t]!) : Blk key lab d' lo hi :=
  ⟨up_same h.1 e, fun t h1 h2 => by rw [e t h1 h2]; exact h.2 t h1 h2⟩

theorem blk_crs {lt : α → α → Bool} {key : α → Int} {lab : α → Nat} (hK : ∀ x y, lab x < lab y → lt y x = decide (key y < key x)) {d : Array α} {lo m hi : Nat} (h1 : Blk key lab d lo m) (h2 : Blk key lab d m hi) : Crs lt key d lo m hi :=
  fun i j a1 a2 a3 a4 => hK _ _ (Nat.lt_of_lt_of_le (h1.2 i a1 a2).2 (h2.2 j a3 a4).1)

theorem blk_merge {key : α → Int} {lab : α → Nat} {d d' : Array α} {lo m hi : Nat} (hs : hi ≤ d.size) (h1 : Blk key lab d lo m) (h2 : Blk key lab d m hi) (hlm : lo ≤ m) (hmh : m ≤ hi) (hM : Mgd key d d' lo hi) : Blk key lab d' lo hi := by
  refine ⟨hM.2, permIn_all d d' lo hi (fun x => lo ≤ lab x ∧ lab x < hi) hs hM.1 (fun t t1 t2 => ?_)⟩
  by_cases c : t < m
  · have := h1.2 t t1 c; omega
  · have := h2.2 t (by omega) t2; omega

/-- from x on there are blocks of c -/
def Blks (key : α → Int) (lab : α → Nat) (d : Array α) (n c x : Nat) : Prop := ∀ q, x ≤ q * c → q * c < n → Blk key lab d (q * c) (min (q * c + c) n)
/-- up to x there are blocks of c -/
def Dns (key : α → Int) (lab : α → Nat) (d : Array α) (c x : Nat) : Prop := ∀ q, q * c + c ≤ x → Blk key lab d (q * c) (q * c + c)

theorem mul_cases (q Q c : Nat) (h : q * c + c ≤ Q * c + c) (hc : 0 < c) : q * c + c ≤ Q * c ∨ q = Q := by
  rcases Nat.lt_or_ge q Q with h1 | h1
  · left
    have := Nat.mul_le_mul_right c (show q + 1 ≤ Q from h1)
    rw [Nat.succ_mul] at this; exact this
  · right
    rcases Nat.lt_or_ge Q q with h2 | h2
    · have := Nat.mul_le_mul_right c (show Q + 1 ≤ q from h2)
      rw [Nat.succ_mul] at this; omega
    · omega

theorem dns_zero (key : α → Int) (lab : α → Nat) (d : Array α) (c : Nat) (hc : 0 < c) : Dns key lab d c 0 := fun q h => by omega

/-- one block more -/
theorem dns_step {key : α → Int} {lab : α → Nat} {d d' : Array α} {c Q : Nat} (hc : 0 < c) (h : Dns key lab d c (Q * c)) (hB : Blk key lab d' (Q * c) (Q * c + c)) (hs : ∀ t, t < Q * c → d'[t]! = d[t]!) : Dns key lab d' c ((Q + 1) * c) := by
  intro q hq
  rw [Nat.succ_mul] at hq
  rcases mul_cases q Q c hq hc with h1 | h1
  · exact blk_same (h q h1) (fun t _ t2 => hs t (by omega))
  · subst h1; exact hB

/-- the last block, shorter -/
theorem blks_end {key : α → Int} {lab : α → Nat} {d d' : Array α} {n c Q : Nat} (h : Dns key lab d c (Q * c)) (hQ : Q * c ≤ n) (hn : n < Q * c + c) (hB : Q * c < n → Blk key lab d' (Q * c) n) (hs : ∀ t, t < Q * c → d'[t]! = d[t]!) : Blks key lab d' n c 0 := by
  intro q _ hq
  rcases Nat.lt_or_ge q Q with h1 | h1
  · have h2 := Nat.mul_le_mul_right c (show q + 1 ≤ Q from h1)
    rw [Nat.succ_mul] at h2
    have h3 := blk_same (h q h2) (fun t _ t2 => hs t (by omega))
    rw [Nat.min_eq_left (by omega)]; exact h3
  · have h2 : q = Q := by
      rcases Nat.lt_or_ge Q q with h3 | h3
      · have h2 := Nat.mul_le_mul_right c (show Q + 1 ≤ q from h3)
        rw [Nat.succ_mul] at h2; omega
      · omega
    subst h2
    rw [Nat.min_eq_right (by omega)]
    exact hB hq

theorem blks_mono {key : α → Int} {lab : α → Nat} {d d' : Array α} {n c x y : Nat} (h : Blks key lab d n c x) (hxy : x ≤ y) (hs : ∀ t, y ≤ t → d'[t]! = d[t]!) : Blks key lab d' n c y :=
  fun q h1 h2 => blk_same (h q (by omega) h2) (fun t t1 _ => hs t (by omega))

/-- the block that begins at a = Q * (2 * c), and the one behind it -/
theorem blks_pair {key : α → Int} {lab : α → Nat} {d : Array α} {n c Q : Nat} (h : Blks key lab d n c (Q * (2 * c))) :
    (Q * (2 * c) < n → Blk key lab d (Q * (2 * c)) (min (Q * (2 * c) + c) n)) ∧ (Q * (2 * c) + c < n → Blk key lab d (Q * (2 * c) + c) (min (Q * (2 * c) + 2 * c) n)) := by
  have e0 : (2 * Q) * c = Q * (2 * c) := by rw [Nat.mul_comm 2 Q, Nat.mul_assoc]
  have e1 : (2 * Q + 1) * c = Q * (2 * c) + c := by rw [Nat.succ_mul, e0]
  have h0 := h (2 * Q)
  have h1 := h (2 * Q + 1)
  rw [e0] at h0
  rw [e1] at h1
  refine ⟨fun a => h0 (Nat.le_refl _) a, fun a => ?_⟩
  have h2 := h1 (by omega) a
  rw [show Q * (2 * c) + 2 * c = Q * (2 * c) + c + c by omega]
  exact h2

end Go.Proofs.Ytekiknngiefkbaa
