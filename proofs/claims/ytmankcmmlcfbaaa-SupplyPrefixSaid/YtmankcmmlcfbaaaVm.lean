/- The reference: a bit, some bits, a number below n. -/
import Derived.Test.YtmankcmmlcfbaaaVd
import Derived.Test.YtmankcmmlcfbaaaVl
import Derived.Test.YtmankcmmlcfbaaaVe
namespace Go.Proofs.Ytmankcmmlcfbaaa
open Go.RowKit Ov
set_option linter.unusedVariables false

theorem exec_index {P : Program} {f : Operand → Value} {o : Oper} {t : TypeId} {x y : Operand} {v X Y : Value} {w : World} (ho : o.op = .index t x y) (hx : f x = X) (hy : f y = Y) (h : (Instr.index t X Y).run P w = .ok v w) :
    (execOp f o).run P w = .ok (.value v) w := by
  subst hx hy
  unfold execOp
  simp [ho, h]
theorem rTaken_any (b : Nat) (s : ByteArray) (p : Nat) (w : World) (h : Rup w b s p) : Calls Try.prog 14 #[.pointer (some ⟨b, 0, none⟩)] w (fun e w' => e = .returned (.int .i64 (p : Nat)) ∧ w' = w) := by
  have c1 := h.c1
  clear h
  go_enter Try.func14, Try.ntmps14
  go_wp2_with fail
  go_ret
  exact ⟨rfl, rfl⟩
theorem rLeft_any (b : Nat) (s : ByteArray) (p : Nat) (w : World) (h : Rup w b s p) : Calls Try.prog 12 #[.pointer (some ⟨b, 0, none⟩)] w (fun e w' => e = .returned (.int .i64 ((nbits s : Nat) - (p : Nat) : Int)) ∧ Gr w w') := by
  have c0 := h.c0
  have c1 := h.c1
  have hp := h.place
  have hl := h.len
  unfold nbits at hp ⊢
  clear h
  go_enter Try.func12, Try.ntmps12
  go_wp2_with fail
  go_region
  go_wp2_with fail
  go_ret
  exact ⟨by first | rfl | (congr 2; omega), (Gr.refl _).drewN 1⟩
theorem rSkip_any (b : Nat) (s : ByteArray) (k : Nat) (w : World) (h : Rup w b s 0) (hk : k ≤ nbits s) : Calls Try.prog 15 #[.pointer (some ⟨b, 0, none⟩), .int .i64 (k : Nat)] w (fun e w' => e = .returned (.tuple #[]) ∧ Rup w' b s k ∧ Ex b w w') := by
  have c1 := h.c1
  have f1 := h.fz 1
  have hl := h.len
  have H := Lib.hid h
  have HK := Lib.hid hk
  have hk2 : k ≤ 8388608 := by unfold nbits at hk; omega
  clear h hk
  go_enter Try.func15, Try.ntmps15
  go_wp2_with fail
  first | go_end0 | refine bodyPost_ret (results_none rfl _ _ _) rfl ?_
  exact ⟨rfl, H.out.set (by simp) HK.out, (Ex.refl b w).setCell (.inl rfl) _⟩
set_option maxRecDepth 100000 in
set_option maxHeartbeats 2000000 in
theorem rbit_any (b : Nat) (s : ByteArray) (P : Nat) (w : World) (h : Rup w b s P) : Calls Try.prog 49 #[.pointer (some ⟨b, 0, none⟩)] w (fun e w' =>
    (P + 1 ≤ nbits s ∧ e = .returned (.tuple #[.int .u64 (bit s P : Nat), .bool true]) ∧ Rup w' b s (P + 1) ∧ Ex b w w') ∨ (nbits s < P + 1 ∧ e = .returned (.tuple #[.int .u64 0, .bool false]) ∧ Rup w' b s P ∧ Ex b w w')) := by
  have H := Lib.hid h
  have c0 := h.c0
  have c1 := h.c1
  have f1 := h.fz 1
  have hl := h.len
  have hp := h.place
  obtain ⟨n, hn⟩ : ∃ n, n = s.size := ⟨_, rfl⟩
  have hnb : nbits s = 8 * n := by unfold nbits; omega
  have HNB := Lib.hid hnb
  rw [hnb] at hp
  have hsn : (s.size : Int) = (n : Int) := by omega
  have hn6 : n ≤ 1048576 := by omega
  have HN := Lib.hid hn
  clear h hnb hl
  go_enter Try.func49, Try.ntmps49
  have hcase : P < 8 * n ∨ ¬ P < 8 * n := Classical.em _
  rcases hcase with hlt | hlt
  · obtain ⟨d, hd⟩ : ∃ d, d = P / 8 := ⟨_, rfl⟩
    obtain ⟨r, hr⟩ : ∃ r, r = P % 8 := ⟨_, rfl⟩
    have hdn : d < n := by omega
    obtain ⟨B, hB⟩ : ∃ B, B = byt s d := ⟨_, rfl⟩
    have hB2 : B < 256 := by rw [hB]; exact byt_lt s d
    have hr2 : r < 8 := by omega
    have q3 : (P : Int).tdiv 8 = (d : Int) := by rw [Int.tdiv_eq_ediv_of_nonneg (by omega)]; omega
    have q4 : (P : Int).tmod 8 = (r : Int) := by rw [Int.tmod_eq_emod_of_nonneg (by omega)]; omega
    have hge : ¬ (8 : Int) * (n : Int) ≤ (P : Int) := by omega
    obtain ⟨u, hu⟩ : ∃ u : Nat, u = 7 - r := ⟨_, rfl⟩
    have hu1 : (7 : Int) - r = (u : Int) := by omega
    have hu8 : u < 8 := by omega
    have h01 : (0 : Int) ≤ (u : Int) := by omega
    obtain ⟨Y, hY⟩ : ∃ Y : Nat, Y = B / 2 ^ u := ⟨_, rfl⟩
    have hY2 : Y < 256 := by rw [hY]; exact Nat.lt_of_le_of_lt (Nat.div_le_self _ _) hB2
    obtain ⟨Z, hZ⟩ : ∃ Z : Nat, Z = Y % 2 := ⟨_, rfl⟩
    have hZ2 : Z < 2 := by omega
    have dn : (d : Int) < (n : Int) := by omega
    have H17 := Lib.hid (fun w => show (binOp .shr 5 (.int .u8 (B : Int)) (.int .i64 (u : Int))).run Try.prog w = .ok (.int .u8 (Y : Int)) w from by rw [hY]; exact shr_byte B u hu8 hB2 w)
    have H18 := Lib.hid (fun w => show (binOp .and 5 (.int .u8 (Y : Int)) (.int .u8 1)).run Try.prog w = .ok (.int .u8 (Z : Int)) w from by rw [hZ]; exact and_byte Y hY2 w)
    have hdat : d < s.data.size := by have : s.data.size = s.size := rfl; omega
    have H9 := Lib.hid (fun (w : World) => show (Instr.index 9 (.string s) (.int .i64 (d : Int))).run Try.prog w = .ok (.int .u8 (B : Int)) w from by
      rw [hB, byt_at hdat]
      rw [run_index_string w 9 s .i64 (d : Int) Try.underlying9, dif_pos ⟨by omega, by omega⟩]
      simp only [Int.toNat_natCast]; rfl)
    have hbit : bit s P = Z := by rw [hZ, hY, hu, hB, hd, hr]; rfl
    have HBIT := Lib.hid hbit
    have HD := Lib.hid hd
    clear hd hr hB hu hY hZ hbit hn
    have EW1 := Lib.hid (show wrap64 (d : Int) = d from wrap_nat rfl (by omega))
    have EW2 := Lib.hid (show IntKind.i64.wrap (d : Int) = d from iwrap_nat rfl (by omega))
    have EW3 := Lib.hid (show wrap64 (r : Int) = r from wrap_nat rfl (by omega))
    have EW4 := Lib.hid (show IntKind.i64.wrap (r : Int) = r from iwrap_nat rfl (by omega))
    have EW5 := Lib.hid (show wrap64 (u : Int) = u from wrap_nat rfl (by omega))
    have EW6 := Lib.hid (show IntKind.i64.wrap (u : Int) = u from iwrap_nat rfl (by omega))
    have EB := Lib.hid (show IntKind.u64.wrap (Z : Int) = (Z : Int) from u64_wrap_id _ (by omega) (by omega))
    go_wp2_with fail
    go_region
    have c0d : w.drew.cell? ⟨b, 0, none⟩ = some (.string s) := c0
    have c1d : w.drew.cell? ⟨b, 1, none⟩ = some (.int .i64 (P : Int)) := c1
    have f1d : w.drew.frozen? ⟨b, 1, none⟩ = false := f1
    have ew1 := EW1.out
    have ew2 := EW2.out
    have ew3 := EW3.out
    have ew4 := EW4.out
    have ew5 := EW5.out
    have ew6 := EW6.out
    have eb := EB.out
    have EP := Lib.hid (show wrap64 ((P : Int) + 1) = ((P + 1 : Nat) : Int) from wrap_nat (by omega) (by omega))
    clear hB2 hr2 hu8 hY2 hZ2 hn6 hp
    go_wp2_with fail
    refine wp_region_held_drew (S := fun wz => wz.cell? ⟨b, 0, none⟩ = some (.string s) ∧ wz.cell? ⟨b, 1, none⟩ = some (.int .i64 (P : Int))) (by kernel_rfl) (⟨c0, c1⟩) (fun hHeld => ?_)
    show wpAnyH _ _ _ _ _ 19 #[false, false, false, false, false, false, false, false, false, false, false, false, false, false, false, false, false, false, false] _ _
    refine wpAnyH_take (i := 0) (oi := { dst := some 16, op := Op.move (Operand.tmp 0), type := 26, pos := "ref.go:34", after := #[], guard := none }) (v := ?_) rfl (by kernel_rfl) (by kernel_rfl) (by kernel_rfl) (fun _ _ _ h => h) (Or.inl ⟨by rfl, ?_⟩) (by assumption) ?_
    rotate_left
    · intro w hSw; (try dsimp only at hSw); go_simp; try with_reducible rfl
    try simp only [Act.put, List.setIfInBounds_toArray, List.set_cons_zero, List.set_cons_succ]
    refine wpAnyH_take (i := 1) (oi := { dst := some 17, op := Op.nilCheck (Operand.tmp 16), type := 0, pos := "ref.go:34", after := #[{ on := 0, ground := Ground.data }], guard := none }) (v := ?_) rfl (by kernel_rfl) (by kernel_rfl) (by kernel_rfl) (fun _ _ _ h => h) (Or.inl ⟨by rfl, ?_⟩) (by assumption) ?_
    rotate_left
    · intro w hSw; (try dsimp only at hSw); go_simp; try with_reducible rfl
    try simp only [Act.put, List.setIfInBounds_toArray, List.set_cons_zero, List.set_cons_succ]
    refine wpAnyH_take (i := 2) (oi := { dst := some 18, op := Op.fieldAddr 62 (Operand.tmp 17) 0, type := 0, pos := "ref.go:34", after := #[{ on := 1, ground := Ground.data }], guard := none }) (v := ?_) rfl (by kernel_rfl) (by kernel_rfl) (by kernel_rfl) (fun _ _ _ h => h) (Or.inl ⟨by rfl, ?_⟩) (by assumption) ?_
    rotate_left
    · intro w hSw; (try dsimp only at hSw); go_simp; try with_reducible rfl
    try simp only [Act.put, List.setIfInBounds_toArray, List.set_cons_zero, List.set_cons_succ]
    refine wpAnyH_take (i := 3) (oi := { dst := some 19, op := Op.load 9 (Operand.tmp 18), type := 9, pos := "ref.go:34", after := #[{ on := 2, ground := Ground.data }], guard := none }) (v := ?_) rfl (by kernel_rfl) (by kernel_rfl) (by kernel_rfl) (fun _ _ _ h => h) (Or.inl ⟨by rfl, ?_⟩) (by assumption) ?_
    rotate_left
    · intro w hSw; (try dsimp only at hSw); go_simp; try with_reducible rfl
    try simp only [Act.put, List.setIfInBounds_toArray, List.set_cons_zero, List.set_cons_succ]
    refine wpAnyH_take (i := 4) (oi := { dst := some 20, op := Op.move (Operand.tmp 0), type := 26, pos := "ref.go:34", after := #[], guard := none }) (v := ?_) rfl (by kernel_rfl) (by kernel_rfl) (by kernel_rfl) (fun _ _ _ h => h) (Or.inl ⟨by rfl, ?_⟩) (by assumption) ?_
    rotate_left
    · intro w hSw; (try dsimp only at hSw); go_simp; try with_reducible rfl
    try simp only [Act.put, List.setIfInBounds_toArray, List.set_cons_zero, List.set_cons_succ]
    refine wpAnyH_take (i := 5) (oi := { dst := some 21, op := Op.nilCheck (Operand.tmp 20), type := 0, pos := "ref.go:34", after := #[{ on := 4, ground := Ground.data }], guard := none }) (v := ?_) rfl (by kernel_rfl) (by kernel_rfl) (by kernel_rfl) (fun _ _ _ h => h) (Or.inl ⟨by rfl, ?_⟩) (by assumption) ?_
    rotate_left
    · intro w hSw; (try dsimp only at hSw); go_simp; try with_reducible rfl
    try simp only [Act.put, List.setIfInBounds_toArray, List.set_cons_zero, List.set_cons_succ]
    refine wpAnyH_take (i := 6) (oi := { dst := some 22, op := Op.fieldAddr 62 (Operand.tmp 21) 1, type := 0, pos := "ref.go:34", after := #[{ on := 5, ground := Ground.data }], guard := none }) (v := ?_) rfl (by kernel_rfl) (by kernel_rfl) (by kernel_rfl) (fun _ _ _ h => h) (Or.inl ⟨by rfl, ?_⟩) (by assumption) ?_
    rotate_left
    · intro w hSw; (try dsimp only at hSw); go_simp; try with_reducible rfl
    try simp only [Act.put, List.setIfInBounds_toArray, List.set_cons_zero, List.set_cons_succ]
    refine wpAnyH_take (i := 7) (oi := { dst := some 23, op := Op.load 3 (Operand.tmp 22), type := 3, pos := "ref.go:34", after := #[{ on := 6, ground := Ground.data }], guard := none }) (v := ?_) rfl (by kernel_rfl) (by kernel_rfl) (by kernel_rfl) (fun _ _ _ h => h) (Or.inl ⟨by rfl, ?_⟩) (by assumption) ?_
    rotate_left
    · intro w hSw; (try dsimp only at hSw); go_simp; try with_reducible rfl
    try simp only [Act.put, List.setIfInBounds_toArray, List.set_cons_zero, List.set_cons_succ]
    refine wpAnyH_take (i := 8) (oi := { dst := some 24, op := Op.binOp BinOp.quo 3 (Operand.tmp 23) (Operand.const (Value.int IntKind.i64 8)) 3, type := 3, pos := "ref.go:34", after := #[{ on := 7, ground := Ground.data }], guard := none }) (v := ?_) rfl (by kernel_rfl) (by kernel_rfl) (by kernel_rfl) (fun _ _ _ h => h) (Or.inl ⟨by rfl, ?_⟩) (by assumption) ?_
    rotate_left
    · intro w hSw; (try dsimp only at hSw); go_simp; try with_reducible rfl
    try simp only [Act.put, List.setIfInBounds_toArray, List.set_cons_zero, List.set_cons_succ]
    refine wpAnyH_take (i := 9) (oi := { dst := some 25, op := Op.index 9 (Operand.tmp 19) (Operand.tmp 24), type := 5, pos := "ref.go:34", after := #[{ on := 3, ground := Ground.data }, { on := 8, ground := Ground.data }], guard := none }) (v := .int .u8 (B : Int)) rfl (by kernel_rfl) (by kernel_rfl) (by kernel_rfl) (fun _ _ _ h => h) (Or.inl ⟨by rfl, ?_⟩) (by assumption) ?_
    · intro w hSw; refine exec_index rfl ?_ ?_ (H9.out w) <;> simp [go_sem]
    try simp only [Act.put, List.setIfInBounds_toArray, List.set_cons_zero, List.set_cons_succ]
    refine wpAnyH_take (i := 10) (oi := { dst := some 26, op := Op.move (Operand.tmp 0), type := 26, pos := "ref.go:34", after := #[], guard := none }) (v := ?_) rfl (by kernel_rfl) (by kernel_rfl) (by kernel_rfl) (fun _ _ _ h => h) (Or.inl ⟨by rfl, ?_⟩) (by assumption) ?_
    rotate_left
    · intro w hSw; (try dsimp only at hSw); go_simp; try with_reducible rfl
    try simp only [Act.put, List.setIfInBounds_toArray, List.set_cons_zero, List.set_cons_succ]
    refine wpAnyH_take (i := 11) (oi := { dst := some 27, op := Op.nilCheck (Operand.tmp 26), type := 0, pos := "ref.go:34", after := #[{ on := 10, ground := Ground.data }], guard := none }) (v := ?_) rfl (by kernel_rfl) (by kernel_rfl) (by kernel_rfl) (fun _ _ _ h => h) (Or.inl ⟨by rfl, ?_⟩) (by assumption) ?_
    rotate_left
    · intro w hSw; (try dsimp only at hSw); go_simp; try with_reducible rfl
    try simp only [Act.put, List.setIfInBounds_toArray, List.set_cons_zero, List.set_cons_succ]
    refine wpAnyH_take (i := 12) (oi := { dst := some 28, op := Op.fieldAddr 62 (Operand.tmp 27) 1, type := 0, pos := "ref.go:34", after := #[{ on := 11, ground := Ground.data }], guard := none }) (v := ?_) rfl (by kernel_rfl) (by kernel_rfl) (by kernel_rfl) (fun _ _ _ h => h) (Or.inl ⟨by rfl, ?_⟩) (by assumption) ?_
    rotate_left
    · intro w hSw; (try dsimp only at hSw); go_simp; try with_reducible rfl
    try simp only [Act.put, List.setIfInBounds_toArray, List.set_cons_zero, List.set_cons_succ]
    refine wpAnyH_take (i := 13) (oi := { dst := some 29, op := Op.load 3 (Operand.tmp 28), type := 3, pos := "ref.go:34", after := #[{ on := 12, ground := Ground.data }], guard := none }) (v := ?_) rfl (by kernel_rfl) (by kernel_rfl) (by kernel_rfl) (fun _ _ _ h => h) (Or.inl ⟨by rfl, ?_⟩) (by assumption) ?_
    rotate_left
    · intro w hSw; (try dsimp only at hSw); go_simp; try with_reducible rfl
    try simp only [Act.put, List.setIfInBounds_toArray, List.set_cons_zero, List.set_cons_succ]
    refine wpAnyH_take (i := 14) (oi := { dst := some 30, op := Op.binOp BinOp.rem 3 (Operand.tmp 29) (Operand.const (Value.int IntKind.i64 8)) 3, type := 3, pos := "ref.go:34", after := #[{ on := 13, ground := Ground.data }], guard := none }) (v := ?_) rfl (by kernel_rfl) (by kernel_rfl) (by kernel_rfl) (fun _ _ _ h => h) (Or.inl ⟨by rfl, ?_⟩) (by assumption) ?_
    rotate_left
    · intro w hSw; (try dsimp only at hSw); go_simp; try with_reducible rfl
    try simp only [Act.put, List.setIfInBounds_toArray, List.set_cons_zero, List.set_cons_succ]
    refine wpAnyH_take (i := 15) (oi := { dst := some 31, op := Op.binOp BinOp.sub 3 (Operand.const (Value.int IntKind.i64 7)) (Operand.tmp 30) 3, type := 3, pos := "ref.go:34", after := #[{ on := 14, ground := Ground.data }], guard := none }) (v := ?_) rfl (by kernel_rfl) (by kernel_rfl) (by kernel_rfl) (fun _ _ _ h => h) (Or.inl ⟨by rfl, ?_⟩) (by assumption) ?_
    rotate_left
    · intro w hSw; (try dsimp only at hSw); go_simp; try with_reducible rfl
    try simp only [Act.put, List.setIfInBounds_toArray, List.set_cons_zero, List.set_cons_succ]
    refine wpAnyH_take (i := 16) (oi := { dst := some 32, op := Op.binOp BinOp.shr 5 (Operand.tmp 25) (Operand.tmp 31) 3, type := 5, pos := "ref.go:34", after := #[{ on := 9, ground := Ground.data }, { on := 15, ground := Ground.data }], guard := none }) (v := .int .u8 (Y : Int)) rfl (by kernel_rfl) (by kernel_rfl) (by kernel_rfl) (fun _ _ _ h => h) (Or.inl ⟨by rfl, ?_⟩) (by assumption) ?_
    · intro w hSw; refine exec_bin (.inl rfl) rfl ?_ ?_ (H17.out w) <;> simp [go_sem]
    try simp only [Act.put, List.setIfInBounds_toArray, List.set_cons_zero, List.set_cons_succ]
    refine wpAnyH_take (i := 17) (oi := { dst := some 33, op := Op.binOp BinOp.and 5 (Operand.tmp 32) (Operand.const (Value.int IntKind.u8 1)) 5, type := 5, pos := "ref.go:34", after := #[{ on := 16, ground := Ground.data }], guard := none }) (v := .int .u8 (Z : Int)) rfl (by kernel_rfl) (by kernel_rfl) (by kernel_rfl) (fun _ _ _ h => h) (Or.inl ⟨by rfl, ?_⟩) (by assumption) ?_
    · intro w hSw; refine exec_bin (.inr rfl) rfl ?_ ?_ (H18.out w) <;> simp [go_sem]
    try simp only [Act.put, List.setIfInBounds_toArray, List.set_cons_zero, List.set_cons_succ]
    refine wpAnyH_take (i := 18) (oi := { dst := some 4, op := Op.assign (Operand.tmp 33), type := 5, pos := "ref.go:34", after := #[{ on := 17, ground := Ground.data }, { on := 0, ground := Ground.phase }, { on := 1, ground := Ground.phase }, { on := 2, ground := Ground.phase }, { on := 3, ground := Ground.phase }, { on := 4, ground := Ground.phase }, { on := 5, ground := Ground.phase }, { on := 6, ground := Ground.phase }, { on := 7, ground := Ground.phase }, { on := 8, ground := Ground.phase }, { on := 9, ground := Ground.phase }, { on := 10, ground := Ground.phase }, { on := 11, ground := Ground.phase }, { on := 12, ground := Ground.phase }, { on := 13, ground := Ground.phase }, { on := 14, ground := Ground.phase }, { on := 15, ground := Ground.phase }, { on := 16, ground := Ground.phase }, { on := 17, ground := Ground.phase }], guard := none }) (v := ?_) rfl (by kernel_rfl) (by kernel_rfl) (by kernel_rfl) (fun _ _ _ h => h) (Or.inl ⟨by rfl, ?_⟩) (by assumption) ?_
    rotate_left
    · intro w hSw; (try dsimp only at hSw); go_simp; try with_reducible rfl
    try simp only [Act.put, List.setIfInBounds_toArray, List.set_cons_zero, List.set_cons_succ]
    refine wpAnyH_done (by kernel_rfl) ?_ _
    have c1e : w.drew.drew.cell? ⟨b, 1, none⟩ = some (.int .i64 (P : Int)) := c1
    have f1e : w.drew.drew.frozen? ⟨b, 1, none⟩ = false := f1
    have ep := EP.out
    go_wp2_with fail
    go_ret2
    clear ew1 ew2 ew3 ew4 ew5 ew6 eb ep
    rw [HBIT.out]
    refine .inl ⟨?_, ?_, ?_, ?_⟩
    · have := HNB.out; omega
    · rfl
    · exact Rup.later (H.out.set (by omega) (by have := HNB.out; omega)) ((Gr.refl _).drewN 2)
    · exact ((Ex.refl b w).setCell (.inl rfl) _).drewN 2
  · have hge : (8 : Int) * (n : Int) ≤ (P : Int) := by omega
    have hge2 : 8 * n ≤ P := by omega
    clear hn
    go_wp2_with fail
    go_region
    go_wp2_with fail
    go_ret2
    exact .inr ⟨by have := HNB.out; omega, rfl, H.out.later ((Gr.refl _).drewN 1), Ex.of ((Gr.refl _).drewN 1) b⟩
end Go.Proofs.Ytmankcmmlcfbaaa
