/- The function that takes bits. -/
import Derived.Test.YtmankcmmlcfbaaaVc
import Derived.Lib.EndianBits
namespace Go.Proofs.Ytmankcmmlcfbaaa
open Go.RowKit Ov
set_option linter.unusedVariables false

theorem and_one (x : Nat) (h : x < 256) : Go.bits .and .u8 (x : Int) 1 = ((x % 2 : Nat) : Int) := by
  have := bits_mask .u8 8 (by decide) wraps_u8 1 (by decide) (x : Int) (by omega) (by omega)
  simpa using this
theorem or_bit (N b : Nat) (h : 2 * N + b < 18446744073709551616) (hb : b < 2) : Go.bits .or .u64 ((2 * N : Nat) : Int) (b : Int) = ((2 * N + b : Nat) : Int) := by
  have := bits_join .u64 64 (by decide) wraps_u64 1 ((2 * N : Nat) : Int) (b : Int) (by omega) (by omega) (by omega) (by omega) (by omega) (by omega)
  rw [this]; omega
theorem wrap_nat {x : Int} {d : Nat} (e : x = d) (h : d < 9223372036854775808) : wrap64 x = d := by subst e; unfold wrap64; omega
theorem iwrap_nat {x : Int} {d : Nat} (e : x = d) (h : d < 9223372036854775808) : IntKind.i64.wrap x = d := by subst e; rw [IntKind.wrap_i64]; omega
theorem exec_bin {P : Program} {f : Operand → Value} {o : Oper} {op : BinOp} {t ty : TypeId} {x y : Operand} {v X Y : Value} {w : World} (hop : op = .shr ∨ op = .and) (ho : o.op = .binOp op t x y ty) (hx : f x = X) (hy : f y = Y) (h : (binOp op t X Y).run P w = .ok v w) :
    (execOp f o).run P w = .ok (.value v) w := by
  subst hx hy
  unfold execOp
  rcases hop with rfl | rfl <;> simp [ho, h, eqGuard]
theorem shr_byte (B u : Nat) (hu : u < 8) (hB : B < 256) (w : World) : (binOp .shr 5 (.int .u8 (B : Int)) (.int .i64 (u : Int))).run Try.prog w = .ok (.int .u8 ((B / 2 ^ u : Nat) : Int)) w := by
  have e : min u 8 = u := by omega
  go_simp
  try rfl
theorem and_byte (Y : Nat) (hY : Y < 256) (w : World) : (binOp .and 5 (.int .u8 (Y : Int)) (.int .u8 1)).run Try.prog w = .ok (.int .u8 ((Y % 2 : Nat) : Int)) w := by
  have h := and_one Y hY
  go_simp
/-- What the function returns that takes k bits. -/
def TkP (b g c : Nat) (s : ByteArray) (p k : Nat) (w : World) (e : Ending) (w' : World) : Prop :=
  (p + k ≤ nbits s ∧ e = .returned (.tuple #[.int .u64 (num s p k : Nat), .int .i64 0]) ∧ Sup w' b g c s (p + k) ∧ Ex b w w') ∨
  (nbits s < p + k ∧ e = .returned (.tuple #[.int .u64 0, .int .i64 4]) ∧ Sup w' b g c s p ∧ Ex b w w')

set_option maxRecDepth 100000 in
set_option maxHeartbeats 2000000 in
theorem taker_any (b g c q : Nat) (s : ByteArray) (p k : Nat) (w : World) (h : Sup w b g c s p) (hq : q ≠ b) (hk : k ≤ 64) (hc : w.cell? ⟨q, 0, none⟩ = some (.pointer (some ⟨b, 0, none⟩))) :
    Calls Try.prog 56 #[.int .i64 (k : Nat), .pointer (some ⟨q, 0, none⟩)] w (TkP b g c s p k w) := by
  have hp := h.place
  have hl := h.len
  have hne := h.ne
  obtain ⟨n, hn⟩ : ∃ n, n = s.size := ⟨_, rfl⟩
  have hnb : nbits s = 8 * n := by unfold nbits; omega
  obtain ⟨L, hL⟩ : ∃ L, L = nbits s := ⟨_, rfl⟩
  have H := Lib.hid h
  have HQ := Lib.hid hq
  have HL := Lib.hid hL
  have HC := Lib.hid hc
  rw [← hL] at hp hnb
  have HN := Lib.hid hn
  clear h hL hn
  go_enter Try.func56, Try.ntmps56
  have HCL : (k : Int) > (L : Int) - p ∨ ¬ (k : Int) > (L : Int) - p := Classical.em _
  rcases HCL with hcl | hcl
  · go_wp2_with (go_at_call 11; refine (left_any b g c s p w H.out).mono ?_; rintro e w1 ⟨rfl, hg⟩; rw [← HL.out])
    go_ret2
    exact Or.inr ⟨by have := HL.out; omega, rfl, H.out.later hg, Ex.of hg b⟩
  · go_wp2_with (go_at_call 11; refine (left_any b g c s p w H.out).mono ?_; rintro e w1 ⟨rfl, hg⟩; rw [← HL.out])
    have HG := Lib.hid hg
    have H1 := Lib.hid (H.out.later hg)
    have hc1 := hg.keeps hc
    clear hc hg
    go_loopw [5, 12] (fun x t wr => ∃ (j : Nat), x = .int .u64 (num s p j : Nat) ∧ t = .int .i64 (j : Nat) ∧ j ≤ k ∧ Sup wr b g c s (p + j) ∧ Ex b w wr) (fun _ t _ => k - (intOf t).toNat)
    case atStart => exact ⟨0, rfl, rfl, by omega, H1.out, Ex.of HG.out b⟩
    case round =>
      obtain ⟨j, rfl, rfl, hj, hs, hx⟩ := hrel
      have HJ := Lib.hid hj
      have HS := Lib.hid hs
      have HX := Lib.hid hx
      have c0 := hs.c0
      have c1 := hs.c1
      have f1 := hs.fz 1
      have cq := hx.keeps HC.out HQ.out
      clear hs hx
      have hlt : (j : Int) < (k : Int) ∨ ¬ (j : Int) < (k : Int) := Classical.em _
      rcases hlt with hlt | hlt
      · obtain ⟨P, hP⟩ : ∃ P, P = p + j := ⟨_, rfl⟩
        have hPlt : P < 8 * n := by have := HL.out; omega
        obtain ⟨d, hd⟩ : ∃ d, d = P / 8 := ⟨_, rfl⟩
        obtain ⟨r, hr⟩ : ∃ r, r = P % 8 := ⟨_, rfl⟩
        have hdn : d < n := by omega
        obtain ⟨B, hB⟩ : ∃ B, B = byt s d := ⟨_, rfl⟩
        have cg : wr.cell? ⟨g, d, none⟩ = some (.int .u8 (B : Int)) := by rw [hB]; exact HS.out.by_ d (by have := HN.out; omega)
        have hB2 : B < 256 := by rw [hB]; exact byt_lt s d
        have hr2 : r < 8 := by omega
        have q1 : (P : Int) / 8 = (d : Int) := by omega
        have q2 : (P : Int) % 8 = (r : Int) := by omega
        have q3 : (P : Int).tdiv 8 = (d : Int) := by rw [Int.tdiv_eq_ediv_of_nonneg (by omega)]; exact q1
        have q4 : (P : Int).tmod 8 = (r : Int) := by rw [Int.tmod_eq_emod_of_nonneg (by omega)]; exact q2
        rw [← hP] at c1
        rw [← HN.out] at c0
        have hn6 : n ≤ 1048576 := by have := HN.out; omega
        have dn : (d : Int) < (n : Int) := by omega
        have EW1 := Lib.hid (show wrap64 (d : Int) = d from wrap_nat rfl (by omega))
        have EW2 := Lib.hid (show IntKind.i64.wrap (d : Int) = d from iwrap_nat rfl (by omega))
        have EW3 := Lib.hid (show wrap64 (r : Int) = r from wrap_nat rfl (by omega))
        have EW4 := Lib.hid (show IntKind.i64.wrap (r : Int) = r from iwrap_nat rfl (by omega))
        obtain ⟨u, hu⟩ : ∃ u : Nat, u = 7 - r := ⟨_, rfl⟩
        have hu1 : (7 : Int) - r = (u : Int) := by omega
        have EW5 := Lib.hid (show wrap64 (u : Int) = u from wrap_nat rfl (by omega))
        have EW6 := Lib.hid (show IntKind.i64.wrap (u : Int) = u from iwrap_nat rfl (by omega))
        have hu8 : u < 8 := by omega
        have HU := Lib.hid hu
        obtain ⟨Y, hY⟩ : ∃ Y : Nat, Y = B / 2 ^ u := ⟨_, rfl⟩
        have hY2 : Y < 256 := by rw [hY]; exact Nat.lt_of_le_of_lt (Nat.div_le_self _ _) hB2
        have H17 := Lib.hid (fun w => show (binOp .shr 5 (.int .u8 (B : Int)) (.int .i64 (u : Int))).run Try.prog w = .ok (.int .u8 (Y : Int)) w from by rw [hY]; exact shr_byte B u hu8 hB2 w)
        obtain ⟨Z, hZ⟩ : ∃ Z : Nat, Z = Y % 2 := ⟨_, rfl⟩
        have hZ2 : Z < 2 := by omega
        have H18 := Lib.hid (fun w => show (binOp .and 5 (.int .u8 (Y : Int)) (.int .u8 1)).run Try.prog w = .ok (.int .u8 (Z : Int)) w from by rw [hZ]; exact and_byte Y hY2 w)
        have HYY := Lib.hid hY
        have HZZ := Lib.hid hZ
        clear hY hZ
        clear hu
        have HP := Lib.hid hP
        have HD := Lib.hid hd
        have HR := Lib.hid hr
        have HB := Lib.hid hB
        clear hP hd hr hB
        obtain ⟨M, hM⟩ : ∃ M, M = num s p j := ⟨_, rfl⟩
        rw [← hM]
        have hM1 : M < 9223372036854775808 := by
          have h1 := num_lt s p j
          have h2 : 2 ^ j ≤ 2 ^ 63 := Nat.pow_le_pow_right (by omega) (by omega)
          rw [hM]; omega
        obtain ⟨M2, hM2⟩ : ∃ M2 : Nat, M2 = 2 * M := ⟨_, rfl⟩
        obtain ⟨M3, hM3⟩ : ∃ M3 : Nat, M3 = 2 * M + Z := ⟨_, rfl⟩
        have EA := Lib.hid (show IntKind.u64.wrap ((M : Int) * 2) = (M2 : Int) from by rw [u64_wrap_id _ (by omega) (by omega)]; omega)
        have EB := Lib.hid (show IntKind.u64.wrap (Z : Int) = (Z : Int) from u64_wrap_id _ (by omega) (by omega))
        have EC := Lib.hid (show Go.bits .or .u64 (M2 : Int) (Z : Int) = (M3 : Int) from by rw [hM2, hM3]; exact or_bit M Z (by omega) hZ2)
        have HM := Lib.hid hM
        have HM3 := Lib.hid hM3
        clear hM hM2 hM3
        have EP := Lib.hid (show wrap64 ((P : Int) + 1) = ((P + 1 : Nat) : Int) from wrap_nat (by omega) (by omega))
        have h01 : (0 : Int) ≤ (u : Int) := by omega
        have ew1 := EW1.out
        have ew2 := EW2.out
        have ew3 := EW3.out
        have ew4 := EW4.out
        have ew5 := EW5.out
        have ew6 := EW6.out
        have ea := EA.out
        have eb := EB.out
        have ec := EC.out
        have ep := EP.out
        clear q1 q2 hp hnb hn6 hB2 hr2 hu8 hY2 hZ2 hM1 hPlt
        go_wp2_with fail
        refine wp_region_held_drew (S := fun wz => wz.cell? ⟨q, 0, none⟩ = some (.pointer (some ⟨b, 0, none⟩)) ∧ wz.cell? ⟨b, 0, none⟩ = some (.slice (some ⟨g, 0, none⟩) n c) ∧ wz.cell? ⟨b, 1, none⟩ = some (.int .i64 (P : Int)) ∧ wz.cell? ⟨g, d, none⟩ = some (.int .u8 (B : Int))) (by kernel_rfl) (⟨cq, c0, c1, cg⟩) (fun hHeld => ?_)
        show wpAnyH _ _ _ _ _ 20 #[false, false, false, false, false, false, false, false, false, false, false, false, false, false, false, false, false, false, false, false] _ _
        refine wpAnyH_take (i := 0) (oi := { dst := some 14, op := Op.load 24 (Operand.tmp 1), type := 24, pos := "supply.go:101", after := #[], guard := none }) (v := ?_) rfl (by kernel_rfl) (by kernel_rfl) (by kernel_rfl) (fun _ _ _ h => h) (Or.inl ⟨by rfl, ?_⟩) (by assumption) ?_
        rotate_left
        · intro w hSw; (try dsimp only at hSw); go_simp; try with_reducible rfl
        try simp only [Act.put, List.setIfInBounds_toArray, List.set_cons_zero, List.set_cons_succ]
        refine wpAnyH_take (i := 1) (oi := { dst := some 15, op := Op.nilCheck (Operand.tmp 14), type := 0, pos := "supply.go:101", after := #[{ on := 0, ground := Ground.data }], guard := none }) (v := ?_) rfl (by kernel_rfl) (by kernel_rfl) (by kernel_rfl) (fun _ _ _ h => h) (Or.inl ⟨by rfl, ?_⟩) (by assumption) ?_
        rotate_left
        · intro w hSw; (try dsimp only at hSw); go_simp; try with_reducible rfl
        try simp only [Act.put, List.setIfInBounds_toArray, List.set_cons_zero, List.set_cons_succ]
        refine wpAnyH_take (i := 2) (oi := { dst := some 16, op := Op.fieldAddr 53 (Operand.tmp 15) 0, type := 0, pos := "supply.go:101", after := #[{ on := 1, ground := Ground.data }], guard := none }) (v := ?_) rfl (by kernel_rfl) (by kernel_rfl) (by kernel_rfl) (fun _ _ _ h => h) (Or.inl ⟨by rfl, ?_⟩) (by assumption) ?_
        rotate_left
        · intro w hSw; (try dsimp only at hSw); go_simp; try with_reducible rfl
        try simp only [Act.put, List.setIfInBounds_toArray, List.set_cons_zero, List.set_cons_succ]
        refine wpAnyH_take (i := 3) (oi := { dst := some 17, op := Op.load 39 (Operand.tmp 16), type := 39, pos := "supply.go:101", after := #[{ on := 2, ground := Ground.data }], guard := none }) (v := ?_) rfl (by kernel_rfl) (by kernel_rfl) (by kernel_rfl) (fun _ _ _ h => h) (Or.inl ⟨by rfl, ?_⟩) (by assumption) ?_
        rotate_left
        · intro w hSw; (try dsimp only at hSw); go_simp; try with_reducible rfl
        try simp only [Act.put, List.setIfInBounds_toArray, List.set_cons_zero, List.set_cons_succ]
        refine wpAnyH_take (i := 4) (oi := { dst := some 18, op := Op.load 24 (Operand.tmp 1), type := 24, pos := "supply.go:101", after := #[], guard := none }) (v := ?_) rfl (by kernel_rfl) (by kernel_rfl) (by kernel_rfl) (fun _ _ _ h => h) (Or.inl ⟨by rfl, ?_⟩) (by assumption) ?_
        rotate_left
        · intro w hSw; (try dsimp only at hSw); go_simp; try with_reducible rfl
        try simp only [Act.put, List.setIfInBounds_toArray, List.set_cons_zero, List.set_cons_succ]
        refine wpAnyH_take (i := 5) (oi := { dst := some 19, op := Op.nilCheck (Operand.tmp 18), type := 0, pos := "supply.go:101", after := #[{ on := 4, ground := Ground.data }], guard := none }) (v := ?_) rfl (by kernel_rfl) (by kernel_rfl) (by kernel_rfl) (fun _ _ _ h => h) (Or.inl ⟨by rfl, ?_⟩) (by assumption) ?_
        rotate_left
        · intro w hSw; (try dsimp only at hSw); go_simp; try with_reducible rfl
        try simp only [Act.put, List.setIfInBounds_toArray, List.set_cons_zero, List.set_cons_succ]
        refine wpAnyH_take (i := 6) (oi := { dst := some 20, op := Op.fieldAddr 53 (Operand.tmp 19) 1, type := 0, pos := "supply.go:101", after := #[{ on := 5, ground := Ground.data }], guard := none }) (v := ?_) rfl (by kernel_rfl) (by kernel_rfl) (by kernel_rfl) (fun _ _ _ h => h) (Or.inl ⟨by rfl, ?_⟩) (by assumption) ?_
        rotate_left
        · intro w hSw; (try dsimp only at hSw); go_simp; try with_reducible rfl
        try simp only [Act.put, List.setIfInBounds_toArray, List.set_cons_zero, List.set_cons_succ]
        refine wpAnyH_take (i := 7) (oi := { dst := some 21, op := Op.load 3 (Operand.tmp 20), type := 3, pos := "supply.go:101", after := #[{ on := 6, ground := Ground.data }], guard := none }) (v := ?_) rfl (by kernel_rfl) (by kernel_rfl) (by kernel_rfl) (fun _ _ _ h => h) (Or.inl ⟨by rfl, ?_⟩) (by assumption) ?_
        rotate_left
        · intro w hSw; (try dsimp only at hSw); go_simp; try with_reducible rfl
        try simp only [Act.put, List.setIfInBounds_toArray, List.set_cons_zero, List.set_cons_succ]
        refine wpAnyH_take (i := 8) (oi := { dst := some 22, op := Op.binOp BinOp.quo 3 (Operand.tmp 21) (Operand.const (Value.int IntKind.i64 8)) 3, type := 3, pos := "supply.go:101", after := #[{ on := 7, ground := Ground.data }], guard := none }) (v := ?_) rfl (by kernel_rfl) (by kernel_rfl) (by kernel_rfl) (fun _ _ _ h => h) (Or.inl ⟨by rfl, ?_⟩) (by assumption) ?_
        rotate_left
        · intro w hSw; (try dsimp only at hSw); go_simp; try with_reducible rfl
        try simp only [Act.put, List.setIfInBounds_toArray, List.set_cons_zero, List.set_cons_succ]
        refine wpAnyH_take (i := 9) (oi := { dst := some 23, op := Op.indexAddr 39 (Operand.tmp 17) (Operand.tmp 22), type := 0, pos := "supply.go:101", after := #[{ on := 3, ground := Ground.data }, { on := 8, ground := Ground.data }], guard := none }) (v := ?_) rfl (by kernel_rfl) (by kernel_rfl) (by kernel_rfl) (fun _ _ _ h => h) (Or.inl ⟨by rfl, ?_⟩) (by assumption) ?_
        rotate_left
        · intro w hSw; (try dsimp only at hSw); go_simp; try with_reducible rfl
        try simp only [Act.put, List.setIfInBounds_toArray, List.set_cons_zero, List.set_cons_succ]
        refine wpAnyH_take (i := 10) (oi := { dst := some 24, op := Op.load 5 (Operand.tmp 23), type := 5, pos := "supply.go:101", after := #[{ on := 9, ground := Ground.data }], guard := none }) (v := ?_) rfl (by kernel_rfl) (by kernel_rfl) (by kernel_rfl) (fun _ _ _ h => h) (Or.inl ⟨by rfl, ?_⟩) (by assumption) ?_
        rotate_left
        · intro w hSw; (try dsimp only at hSw); go_simp; try with_reducible rfl
        try simp only [Act.put, List.setIfInBounds_toArray, List.set_cons_zero, List.set_cons_succ]
        refine wpAnyH_take (i := 11) (oi := { dst := some 25, op := Op.load 24 (Operand.tmp 1), type := 24, pos := "supply.go:101", after := #[], guard := none }) (v := ?_) rfl (by kernel_rfl) (by kernel_rfl) (by kernel_rfl) (fun _ _ _ h => h) (Or.inl ⟨by rfl, ?_⟩) (by assumption) ?_
        rotate_left
        · intro w hSw; (try dsimp only at hSw); go_simp; try with_reducible rfl
        try simp only [Act.put, List.setIfInBounds_toArray, List.set_cons_zero, List.set_cons_succ]
        refine wpAnyH_take (i := 12) (oi := { dst := some 26, op := Op.nilCheck (Operand.tmp 25), type := 0, pos := "supply.go:101", after := #[{ on := 11, ground := Ground.data }], guard := none }) (v := ?_) rfl (by kernel_rfl) (by kernel_rfl) (by kernel_rfl) (fun _ _ _ h => h) (Or.inl ⟨by rfl, ?_⟩) (by assumption) ?_
        rotate_left
        · intro w hSw; (try dsimp only at hSw); go_simp; try with_reducible rfl
        try simp only [Act.put, List.setIfInBounds_toArray, List.set_cons_zero, List.set_cons_succ]
        refine wpAnyH_take (i := 13) (oi := { dst := some 27, op := Op.fieldAddr 53 (Operand.tmp 26) 1, type := 0, pos := "supply.go:101", after := #[{ on := 12, ground := Ground.data }], guard := none }) (v := ?_) rfl (by kernel_rfl) (by kernel_rfl) (by kernel_rfl) (fun _ _ _ h => h) (Or.inl ⟨by rfl, ?_⟩) (by assumption) ?_
        rotate_left
        · intro w hSw; (try dsimp only at hSw); go_simp; try with_reducible rfl
        try simp only [Act.put, List.setIfInBounds_toArray, List.set_cons_zero, List.set_cons_succ]
        refine wpAnyH_take (i := 14) (oi := { dst := some 28, op := Op.load 3 (Operand.tmp 27), type := 3, pos := "supply.go:101", after := #[{ on := 13, ground := Ground.data }], guard := none }) (v := ?_) rfl (by kernel_rfl) (by kernel_rfl) (by kernel_rfl) (fun _ _ _ h => h) (Or.inl ⟨by rfl, ?_⟩) (by assumption) ?_
        rotate_left
        · intro w hSw; (try dsimp only at hSw); go_simp; try with_reducible rfl
        try simp only [Act.put, List.setIfInBounds_toArray, List.set_cons_zero, List.set_cons_succ]
        refine wpAnyH_take (i := 15) (oi := { dst := some 29, op := Op.binOp BinOp.rem 3 (Operand.tmp 28) (Operand.const (Value.int IntKind.i64 8)) 3, type := 3, pos := "supply.go:101", after := #[{ on := 14, ground := Ground.data }], guard := none }) (v := ?_) rfl (by kernel_rfl) (by kernel_rfl) (by kernel_rfl) (fun _ _ _ h => h) (Or.inl ⟨by rfl, ?_⟩) (by assumption) ?_
        rotate_left
        · intro w hSw; (try dsimp only at hSw); go_simp; try with_reducible rfl
        try simp only [Act.put, List.setIfInBounds_toArray, List.set_cons_zero, List.set_cons_succ]
        refine wpAnyH_take (i := 16) (oi := { dst := some 30, op := Op.binOp BinOp.sub 3 (Operand.const (Value.int IntKind.i64 7)) (Operand.tmp 29) 3, type := 3, pos := "supply.go:101", after := #[{ on := 15, ground := Ground.data }], guard := none }) (v := ?_) rfl (by kernel_rfl) (by kernel_rfl) (by kernel_rfl) (fun _ _ _ h => h) (Or.inl ⟨by rfl, ?_⟩) (by assumption) ?_
        rotate_left
        · intro w hSw; (try dsimp only at hSw); go_simp; try with_reducible rfl
        try simp only [Act.put, List.setIfInBounds_toArray, List.set_cons_zero, List.set_cons_succ]
        refine wpAnyH_take (i := 17) (oi := { dst := some 31, op := Op.binOp BinOp.shr 5 (Operand.tmp 24) (Operand.tmp 30) 3, type := 5, pos := "supply.go:101", after := #[{ on := 10, ground := Ground.data }, { on := 16, ground := Ground.data }], guard := none }) (v := .int .u8 (Y : Int)) rfl (by kernel_rfl) (by kernel_rfl) (by kernel_rfl) (fun _ _ _ h => h) (Or.inl ⟨by rfl, ?_⟩) (by assumption) ?_
        · intro w hSw; refine exec_bin (.inl rfl) rfl ?_ ?_ (H17.out w) <;> simp [go_sem]
        try simp only [Act.put, List.setIfInBounds_toArray, List.set_cons_zero, List.set_cons_succ]
        refine wpAnyH_take (i := 18) (oi := { dst := some 32, op := Op.binOp BinOp.and 5 (Operand.tmp 31) (Operand.const (Value.int IntKind.u8 1)) 5, type := 5, pos := "supply.go:101", after := #[{ on := 17, ground := Ground.data }], guard := none }) (v := .int .u8 (Z : Int)) rfl (by kernel_rfl) (by kernel_rfl) (by kernel_rfl) (fun _ _ _ h => h) (Or.inl ⟨by rfl, ?_⟩) (by assumption) ?_
        · intro w hSw; refine exec_bin (.inr rfl) rfl ?_ ?_ (H18.out w) <;> simp [go_sem]
        try simp only [Act.put, List.setIfInBounds_toArray, List.set_cons_zero, List.set_cons_succ]
        refine wpAnyH_take (i := 19) (oi := { dst := some 6, op := Op.assign (Operand.tmp 32), type := 5, pos := "supply.go:101", after := #[{ on := 18, ground := Ground.data }, { on := 0, ground := Ground.phase }, { on := 1, ground := Ground.phase }, { on := 2, ground := Ground.phase }, { on := 3, ground := Ground.phase }, { on := 4, ground := Ground.phase }, { on := 5, ground := Ground.phase }, { on := 6, ground := Ground.phase }, { on := 7, ground := Ground.phase }, { on := 8, ground := Ground.phase }, { on := 9, ground := Ground.phase }, { on := 10, ground := Ground.phase }, { on := 11, ground := Ground.phase }, { on := 12, ground := Ground.phase }, { on := 13, ground := Ground.phase }, { on := 14, ground := Ground.phase }, { on := 15, ground := Ground.phase }, { on := 16, ground := Ground.phase }, { on := 17, ground := Ground.phase }, { on := 18, ground := Ground.phase }], guard := none }) (v := ?_) rfl (by kernel_rfl) (by kernel_rfl) (by kernel_rfl) (fun _ _ _ h => h) (Or.inl ⟨by rfl, ?_⟩) (by assumption) ?_
        rotate_left
        · intro w hSw; (try dsimp only at hSw); go_simp; try with_reducible rfl
        try simp only [Act.put, List.setIfInBounds_toArray, List.set_cons_zero, List.set_cons_succ]
        refine wpAnyH_done (by kernel_rfl) ?_ _
        have c1d : wr.drew.cell? ⟨b, 1, none⟩ = some (.int .i64 (P : Int)) := c1
        have cqd : wr.drew.cell? ⟨q, 0, none⟩ = some (.pointer (some ⟨b, 0, none⟩)) := cq
        have f1d : wr.drew.frozen? ⟨b, 1, none⟩ = false := f1
        go_wp2_with fail
        go_roundw
        case rel =>
          clear ew1 ew2 ew3 ew4 ew5 ew6 ea eb ec ep
          have hbit : num s p (j + 1) = M3 := by
            rw [HM3.out, HZZ.out, HYY.out, HM.out, HU.out, HB.out, HD.out, HR.out, HP.out]; rfl
          have hpj : p + (j + 1) ≤ nbits s := by have := HL.out; omega
          refine ⟨j + 1, by rw [hbit], by simp, by omega, ?_, (HX.out.setCell (.inl rfl) _).drewN 1⟩
          exact Sup.later (HS.out.set (by have := HP.out; omega) hpj) ((Gr.refl _).drewN 1)
        case measure => simp [intOf]; omega
      · go_wp2_with fail
        go_ret2
        obtain rfl : k = j := by omega
        exact Or.inl ⟨by have := HL.out; omega, rfl, HS.out, HX.out⟩
end Go.Proofs.Ytmankcmmlcfbaaa
