import Derived.Test.YtfmmkdmnondomaaLExc
/- Numbers whose prime factors below 65536 are below 1024: a search by the factors, the greatest first. -/
namespace Ob
set_option linter.unusedVariables false

/-- The primes below 1024, but 2, 7 and 61, with the least common exponent at which the powers of 2, 7 and 61 are 1. -/
def tab : List (Nat × Nat) := [(1021, 1020), (1019, 1018), (1013, 1012), (1009, 1008), (997, 996), (991, 990), (983, 982), (977, 488), (971, 970), (967, 966), (953, 952), (947, 946), (941, 940), (937, 936), (929, 928), (919, 918), (911, 182), (907, 906), (887, 886), (883, 882), (881, 880), (877, 876), (863, 862), (859, 858), (857, 856), (853, 852), (839, 419), (829, 828), (827, 826), (823, 822), (821, 820), (811, 810), (809, 404), (797, 796), (787, 786), (773, 772), (769, 768), (761, 760), (757, 756), (751, 750), (743, 742), (739, 738), (733, 732), (727, 363), (719, 359), (709, 708), (701, 700), (691, 690), (683, 682), (677, 676), (673, 672), (661, 660), (659, 658), (653, 652), (647, 646), (643, 642), (641, 640), (631, 630), (619, 618), (617, 616), (613, 612), (607, 303), (601, 600), (599, 598), (593, 592), (587, 586), (577, 576), (571, 570), (569, 284), (563, 562), (557, 556), (547, 546), (541, 540), (523, 522), (521, 520), (509, 508), (503, 251), (499, 498), (491, 490), (487, 486), (479, 239), (467, 466), (463, 462), (461, 460), (457, 456), (449, 224), (443, 442), (439, 73), (433, 432), (431, 430), (421, 420), (419, 418), (409, 408), (401, 400), (397, 396), (389, 388), (383, 382), (379, 378), (373, 372), (367, 183), (359, 358), (353, 352), (349, 348), (347, 346), (337, 336), (331, 330), (317, 316), (313, 312), (311, 310), (307, 306), (293, 292), (283, 282), (281, 280), (277, 276), (271, 135), (269, 268), (263, 262), (257, 256), (251, 250), (241, 240), (239, 238), (233, 232), (229, 228), (227, 226), (223, 222), (211, 210), (199, 99), (197, 196), (193, 192), (191, 190), (181, 180), (179, 178), (173, 172), (167, 83), (163, 162), (157, 156), (151, 150), (149, 148), (139, 138), (137, 68), (131, 130), (127, 126), (113, 56), (109, 108), (107, 106), (103, 51), (101, 100), (97, 96), (89, 88), (83, 82), (79, 78), (73, 72), (71, 70), (67, 66), (59, 58), (53, 52), (47, 23), (43, 42), (41, 40), (37, 36), (31, 30), (29, 28), (23, 22), (19, 18), (17, 16), (13, 12), (11, 10), (5, 4), (3, 2)]

def okTab : List (Nat × Nat) → Bool
  | [] => true
  | e :: t => okL e.1 e.2 && (Nat.ble (nat_lit 2) e.1 && okTab t)
theorem okTab_ok : ∀ l, okTab l = true → ∀ e ∈ l, okL e.1 e.2 = true ∧ 2 ≤ e.1
  | [], _, e, h => by cases h
  | a :: t, h, e, he => by
    unfold okTab at h
    simp only [Bool.and_eq_true] at h
    rw [List.mem_cons] at he
    rcases he with rfl | he
    · exact ⟨h.1, Nat.le_of_ble_eq_true h.2.1⟩
    · exact okTab_ok t h.2.2 e he

def anyDiv (d : Nat) : List Nat → Bool
  | [] => false
  | r :: l => (Nat.blt r d && Nat.beq (Nat.mod d r) (nat_lit 0)) || anyDiv d l
theorem anyDiv_ok {d : Nat} : ∀ l, anyDiv d l = true → ∃ r ∈ l, r < d ∧ r ∣ d
  | [], h => by cases h
  | a :: l, h => by
    unfold anyDiv at h
    rw [Bool.or_eq_true, Bool.and_eq_true] at h
    rcases h with ⟨h1, h2⟩ | h
    · exact ⟨a, List.mem_cons_self .., by simpa using h1, Nat.dvd_of_mod_eq_zero (Nat.eq_of_beq_eq_true h2)⟩
    · obtain ⟨r, h1, h2⟩ := anyDiv_ok l h
      exact ⟨r, List.mem_cons_of_mem _ h1, h2⟩
def inTab (d : Nat) : List (Nat × Nat) → Bool
  | [] => false
  | e :: t => Nat.beq d e.1 || inTab d t
theorem inTab_ok {d : Nat} : ∀ l, inTab d l = true → d ∈ l.map Prod.fst
  | [], h => by cases h
  | e :: t, h => by
    unfold inTab at h
    rw [Bool.or_eq_true] at h
    rw [List.map_cons, List.mem_cons]
    rcases h with h | h
    · exact .inl (Nat.eq_of_beq_eq_true h)
    · exact .inr (inTab_ok t h)
def cov : Nat → Nat → Bool
  | 0, _ => true
  | f + 1, d => (anyDiv d sml || inTab d tab || Nat.beq d (nat_lit 7) || Nat.beq d (nat_lit 61)) && cov f (Nat.add d (nat_lit 2))
theorem cov_ok : ∀ f d, cov f d = true → ∀ j, j < f → anyDiv (d + j * 2) sml = true ∨ inTab (d + j * 2) tab = true ∨ d + j * 2 = 7 ∨ d + j * 2 = 61
  | 0, d, _, j, h => by omega
  | f + 1, d, h, j, hj => by
    unfold cov at h
    simp only [Bool.and_eq_true, Bool.or_eq_true] at h
    rcases j with _ | j
    · simp only [Nat.zero_mul, Nat.add_zero]
      rcases h.1 with ((h1 | h1) | h1) | h1
      · exact .inl h1
      · exact .inr (.inl h1)
      · exact .inr (.inr (.inl (Nat.eq_of_beq_eq_true h1)))
      · exact .inr (.inr (.inr (Nat.eq_of_beq_eq_true h1)))
    · rw [show d + (j + 1) * 2 = d + 2 + j * 2 by omega]
      exact cov_ok f _ h.2 j (by omega)

set_option maxRecDepth 100000 in
theorem tab_ok : ∀ e ∈ tab, okL e.1 e.2 = true ∧ 2 ≤ e.1 := okTab_ok tab (by decide +kernel)
set_option maxRecDepth 100000 in
theorem tab_cov : cov 511 3 = true := by decide +kernel

theorem tab_all {r : Nat} (hr : Pr r) (h1 : r < 1024) (h2 : r % 2 = 1) (h7 : r ≠ 7) (h61 : r ≠ 61) : r ∈ tab.map Prod.fst := by
  have hr2 := hr.1
  have e : r = 3 + (r - 3) / 2 * 2 := by omega
  have h := cov_ok 511 3 tab_cov ((r - 3) / 2) (by omega)
  rw [← e] at h
  rcases h with h | h | h | h
  · obtain ⟨s, h3, h4, h5⟩ := anyDiv_ok _ h
    exact absurd h5 (hr.2 s (sml_lt s h3).1 h4)
  · exact inTab_ok _ h
  · exact absurd h h7
  · exact absurd h h61

/-- A candidate for the inverse. -/
def inv (m : Nat) : Nat → Nat → Nat → Nat → Nat → Nat
  | 0, _, _, x, _ => x
  | f + 1, a, b, x, y => match Nat.beq b (nat_lit 0) with
    | true => x
    | false => force (Nat.mod a b) fun r => force (Nat.mod (Nat.add x (Nat.mul (Nat.div a b) (Nat.sub m y))) m) fun z => inv m f b r y z

def enu (d L B i : Nat) : Bool := Nat.beq (Nat.mod (Nat.mul d i) L) (Nat.mod (nat_lit 1) L) && force (Nat.mul d L) fun D => en D (Nat.succ (Nat.div B L)) (Nat.mul d (Nat.mod i L))

def br (S : Nat → Nat → List (Nat × Nat) → Bool) (z : Bool) (d L : Nat) : List (Nat × Nat) → Bool
  | [] => z
  | e :: t => (match Nat.ble (Nat.mul d e.1) (nat_lit 4294967295) with
    | false => true
    | true => force (Nat.mul d e.1) fun d' => force (Nat.lcm L e.2) fun L' => S d' L' (e :: t)) && br S z d L t

def sr : Nat → Nat → Nat → List (Nat × Nat) → Bool
  | 0, _, _, _ => false
  | f + 1, d, L, pl => match Nat.beq (Nat.gcd d L) (nat_lit 1) with
    | false => true
    | true => force (Nat.div (nat_lit 4294967295) d) fun B => match Nat.ble (Nat.div B L) (nat_lit 100) with
      | true => force (inv L 60 L (Nat.mod d L) (nat_lit 0) (nat_lit 1)) fun i => enu d L B i
      | false => br (sr f) (bad d && (Nat.ble (nat_lit 65536) d || chk d)) d L pl

theorem inv_mod {d L i c : Nat} (h1 : d * i % L = 1 % L) (h2 : d * c % L = 1 % L) : c % L = i % L := by
  have a : d * i * c % L = c % L := by rw [Nat.mul_mod, h1, ← Nat.mul_mod, Nat.one_mul]
  have b : d * i * c % L = i % L := by
    rw [Nat.mul_right_comm, Nat.mul_mod, h2, ← Nat.mul_mod, Nat.one_mul]
  rw [← a, b]

theorem one_of_dvd {L x : Nat} (hx : 1 ≤ x) (h : L ∣ x - 1) : x % L = 1 % L := by
  obtain ⟨k, hk⟩ := h
  have : x = 1 + L * k := by omega
  rw [this, Nat.add_mul_mod_self_left]

theorem enu_ok {d L B i c : Nat} (hd : 3 ≤ d) (hL : 1 ≤ L) (hB : B = 4294967295 / d) (h : enu d L B i = true) (hc : 1 ≤ c) (hn : d * c < 4294967296) (hp : Pass (d * c)) (hl : L ∣ d * c - 1) : False := by
  unfold enu at h
  rw [Bool.and_eq_true, force_eq] at h
  have h1 : d * i % L = 1 % L := Nat.eq_of_beq_eq_true h.1
  have h3 : 3 ≤ d * c := by have := Nat.mul_le_mul hd hc; omega
  have h2 := one_of_dvd (by omega) hl
  have h4 := inv_mod h1 h2
  have h5 : c / L < B / L + 1 := by
    have : c ≤ B := by rw [hB, Nat.le_div_iff_mul_le (by omega), Nat.mul_comm]; omega
    have := Nat.div_le_div_right (c := L) this
    omega
  have h6 := en_ok _ _ h.2 (c / L) h5
  have e : Nat.mul d (Nat.mod i L) + c / L * Nat.mul d L = d * c := by
    show d * (i % L) + c / L * (d * L) = d * c
    rw [← h4, Nat.mul_left_comm, ← Nat.mul_add]
    congr 1
    have := Nat.div_add_mod c L
    rw [Nat.mul_comm] at this
    omega
  rw [e] at h6
  exact bad_ok (by omega) hn h6 hp

/-- No number d c passes whose c has prime factors of the list, or from 65537 on, alone. -/
def Sem (d L : Nat) (pl : List (Nat × Nat)) : Prop := ∀ c, 1 ≤ c → (∀ r, Pr r → r ∣ c → r ∈ pl.map Prod.fst ∨ 65537 ≤ r) → d * c < 4294967296 → Pass (d * c) → L ∣ d * c - 1 → False

theorem br_ok {S : Nat → Nat → List (Nat × Nat) → Bool} {z : Bool} {d L : Nat} (hd : 3 ≤ d) (hL : 1 ≤ L)
    (hS : ∀ d' L' pl', 3 ≤ d' → 1 ≤ L' → (∀ e ∈ pl', okL e.1 e.2 = true ∧ 2 ≤ e.1) → S d' L' pl' = true → Sem d' L' pl') :
    ∀ pl, (∀ e ∈ pl, okL e.1 e.2 = true ∧ 2 ≤ e.1) → br S z d L pl = true → ∀ c, 1 ≤ c → (∀ r, Pr r → r ∣ c → r ∈ pl.map Prod.fst ∨ 65537 ≤ r) → d * c < 4294967296 → Pass (d * c) → L ∣ d * c - 1 → z = true ∧ ∀ r, Pr r → r ∣ c → 65537 ≤ r
  | [], _, h, c, hc, hr, hn, hp, hl => ⟨h, fun r h1 h2 => by
      rcases hr r h1 h2 with h3 | h3
      · cases h3
      · exact h3⟩
  | e :: t, he, h, c, hc, hr, hn, hp, hl => by
    unfold br at h
    rw [Bool.and_eq_true] at h
    obtain ⟨ho, he2⟩ := he e (List.mem_cons_self ..)
    by_cases hd' : e.1 ∣ c
    · exfalso
      obtain ⟨c', rfl⟩ := hd'
      have hc' : 1 ≤ c' := by
        rcases c' with _ | c'
        · simp at hc
        · omega
      have h3 : d * e.1 * c' = d * (e.1 * c') := Nat.mul_assoc _ _ _
      have h4 : d * e.1 ≤ 4294967295 := by
        have := Nat.mul_le_mul_left (d * e.1) hc'
        omega
      have h1 := h.1
      rw [show Nat.ble (Nat.mul d e.1) (nat_lit 4294967295) = true from Nat.ble_eq_true_of_le h4] at h1
      change force (Nat.mul d e.1) (fun d' => force (Nat.lcm L e.2) fun L' => S d' L' (e :: t)) = true at h1
      rw [force_eq, force_eq] at h1
      have h5 : 3 ≤ d * e.1 := by have := Nat.mul_le_mul hd he2; omega
      have h6 := Nat.mul_le_mul h5 hc'
      obtain ⟨hM1, hM⟩ := okL_ok he2 ho
      have h7 : e.2 ∣ d * (e.1 * c') - 1 := hM _ (hp.H (by omega) he2 ⟨d * c', by rw [Nat.mul_left_comm]⟩)
      refine hS (d * e.1) (Nat.lcm L e.2) (e :: t) h5 (Nat.lcm_pos hL hM1) he h1 c' hc' (fun r h8 h9 => hr r h8 (Nat.dvd_trans h9 (Nat.dvd_mul_left _ _))) ?_ ?_ ?_
      · rw [h3]; exact hn
      · rw [h3]; exact hp
      · rw [h3]; exact Nat.lcm_dvd hl h7
    · refine br_ok hd hL hS t (fun x hx => he x (List.mem_cons_of_mem _ hx)) h.2 c hc (fun r h1 h2 => ?_) hn hp hl
      rcases hr r h1 h2 with h3 | h3
      · rw [List.map_cons, List.mem_cons] at h3
        rcases h3 with h3 | h3
        · rw [h3] at h2; exact absurd h2 hd'
        · exact .inl h3
      · exact .inr h3

/-- What has prime factors from 65537 on alone is 1 or a prime. -/
theorem great_prime {c : Nat} (hc : 1 ≤ c) (hn : c < 4294967296) (h : ∀ r, Pr r → r ∣ c → 65537 ≤ r) : c = 1 ∨ (Pr c ∧ 65537 ≤ c ∧ c % 2 = 1) := by
  by_cases h1 : c = 1
  · exact .inl h1
  · right
    obtain ⟨q, hq, s, hs⟩ := exists_prime c (by omega)
    have h2 := h q hq ⟨s, hs⟩
    have h3 : s ≠ 0 := fun h0 => by rw [h0] at hs; omega
    have h4 : s = 1 := by
      apply Classical.byContradiction
      intro hne
      obtain ⟨p, hp, hps⟩ := exists_prime s (by omega)
      have h5 := h p hp (Nat.dvd_trans hps ⟨q, by rw [hs, Nat.mul_comm]⟩)
      have h6 := Nat.le_of_dvd (by omega) hps
      have := Nat.mul_le_mul h2 (show 65537 ≤ s by omega)
      omega
    rw [h4, Nat.mul_one] at hs
    rw [hs]
    refine ⟨hq, h2, ?_⟩
    rcases Nat.mod_two_eq_zero_or_one q with h5 | h5
    · exact absurd (Nat.dvd_of_mod_eq_zero h5) (hq.2 2 (by omega) (by omega))
    · exact h5

theorem sr_ok : ∀ f d L pl, 3 ≤ d → 1 ≤ L → (∀ e ∈ pl, okL e.1 e.2 = true ∧ 2 ≤ e.1) → sr f d L pl = true → Sem d L pl
  | 0, d, L, pl, _, _, _, h => by cases h
  | f + 1, d, L, pl, hd, hL, he, h => by
    intro c hc hr hn hp hl
    have h3 : 3 ≤ d * c := by have := Nat.mul_le_mul hd hc; omega
    unfold sr at h
    split at h
    · rename_i hg
      have h4 : Nat.gcd d L ∣ 1 := by
        have a : Nat.gcd d L ∣ d * c := Nat.dvd_trans (Nat.gcd_dvd_left d L) (Nat.dvd_mul_right _ _)
        have b : Nat.gcd d L ∣ d * c - 1 := Nat.dvd_trans (Nat.gcd_dvd_right d L) hl
        have := Nat.dvd_sub a b
        rw [show d * c - (d * c - 1) = 1 by omega] at this
        exact this
      rw [Nat.dvd_one.1 h4] at hg
      cases hg
    · rw [force_eq] at h
      split at h
      · rw [force_eq] at h
        exact enu_ok hd hL rfl h hc hn hp hl
      · obtain ⟨hz, hq⟩ := br_ok hd hL (sr_ok f) pl he h c hc hr hn hp hl
        rw [Bool.and_eq_true] at hz
        have hcn : c < 4294967296 := by
          have := Nat.mul_le_mul_right c (show 1 ≤ d by omega); omega
        rcases great_prime hc hcn hq with rfl | ⟨h5, h6, h7⟩
        · rw [Nat.mul_one] at hn hp
          exact bad_ok (by omega) hn hz.1 hp
        · rw [Nat.mul_comm] at hn hp
          rw [Bool.or_eq_true] at hz
          rcases hz.2 with h8 | h8
          · have h8 : 65536 ≤ d := Nat.le_of_ble_eq_true h8
            have := Nat.mul_le_mul h6 h8
            omega
          · exact chk_ok h5 h6 h7 hd hn h8 hp

def topOne : List (Nat × Nat) → Bool
  | [] => true
  | e :: t => br (sr 40) (chk e.1) e.1 e.2 (e :: t)
def topL : Nat → Nat → Bool
  | 0, _ => true
  | f + 1, i => topOne (tab.drop i) && topL f (Nat.succ i)
theorem topL_ok : ∀ f i, topL f i = true → ∀ j, j < f → topOne (tab.drop (i + j)) = true
  | 0, i, _, j, h => by omega
  | f + 1, i, h, j, hj => by
    unfold topL at h
    rw [Bool.and_eq_true] at h
    rcases j with _ | j
    · exact h.1
    · rw [show i + (j + 1) = i.succ + j by omega]
      exact topL_ok f _ h.2 j (by omega)

theorem top_ok {n : Nat} (h3 : 3 ≤ n) (ho : n % 2 = 1) (hn : n < 4294967296) (hp : Pass n) : ∀ pl : List (Nat × Nat), (∀ i, topOne (pl.drop i) = true) → (∀ e ∈ pl, okL e.1 e.2 = true ∧ 2 ≤ e.1) → (∀ r, Pr r → r ∣ n → r ∈ pl.map Prod.fst ∨ 65537 ≤ r) → Pr n
  | [], _, _, hr => by
    rcases great_prime (by omega) hn (fun r h1 h2 => by
      rcases hr r h1 h2 with h | h
      · cases h
      · exact h) with h | h
    · omega
    · exact h.1
  | e :: t, ht, he, hr => by
    by_cases h : Pr e.1 ∧ e.1 ∣ n
    · obtain ⟨hpe, c, rfl⟩ := h
      have he2 := hpe.1
      have hc : 1 ≤ c := by
        rcases c with _ | c
        · simp at h3
        · omega
      have hp3 : 3 ≤ e.1 := by
        apply Classical.byContradiction
        intro hlt
        have : e.1 = 2 := by omega
        rw [this, Nat.mul_mod_right] at ho
        omega
      obtain ⟨hM1, hM⟩ := okL_ok he2 (he e (List.mem_cons_self ..)).1
      have h7 : e.2 ∣ e.1 * c - 1 := hM _ (hp.H (by omega) he2 (Nat.dvd_mul_right _ _))
      obtain ⟨hz, hq⟩ := br_ok hp3 hM1 (sr_ok 40) (e :: t) he (ht 0) c hc (fun r h1 h2 => hr r h1 (Nat.dvd_trans h2 (Nat.dvd_mul_left _ _))) hn hp h7
      have hcn : c < 4294967296 := by
        have := Nat.mul_le_mul_right c (show 1 ≤ e.1 by omega); omega
      rcases great_prime hc hcn hq with rfl | ⟨h5, h6, h8⟩
      · rw [Nat.mul_one]; exact hpe
      · exfalso
        rw [Nat.mul_comm] at hn hp
        exact chk_ok h5 h6 h8 hp3 hn hz hp
    · refine top_ok h3 ho hn hp t (fun i => ht (i + 1)) (fun x hx => he x (List.mem_cons_of_mem _ hx)) (fun r h1 h2 => ?_)
      rcases hr r h1 h2 with h3 | h3
      · rw [List.map_cons, List.mem_cons] at h3
        rcases h3 with h3 | h3
        · rw [h3] at h1 h2; exact absurd ⟨h1, h2⟩ h
        · exact .inl h3
      · exact .inr h3
end Ob
