/- What is made of the bits that a function takes; given back if there is an error. -/
import Derived.Test.YtmankcmmlcfbaaaVd
import Derived.Recover
namespace Go.Proofs.Ytmankcmmlcfbaaa
open Go.RowKit Ov
set_option linter.unusedVariables false

theorem takernew_any (b : Nat) (w : World) : Calls Try.prog 51 #[.pointer (some ⟨b, 0, none⟩)] w (fun e w' => e = .returned (.func (.func 56) #[] #[.pointer (some ⟨w.heap.size, 0, none⟩)]) ∧ w' = w.alloc (.cells #[.pointer (some ⟨b, 0, none⟩)] 24)) := by
  have hmf : ∀ (fn : Fn) (first cap : Array Value) (w : World), (Instr.makeFunc fn first cap).run Try.prog w = .ok (.func fn first cap) w := fun _ _ _ _ => rfl
  go_enter Try.func51, Try.ntmps51
  go_wp2_with fail
  go_ret
  exact ⟨rfl, rfl⟩
/-- The deferred function writes back the number of bits taken, if there is an error. -/

theorem backu_err (b E F B3 : Nat) (p : Nat) (code : Int) (w : World) (he : w.cell? ⟨E, 0, none⟩ = some (.int .i64 code)) (hc : code ≠ 0) (hp : w.cell? ⟨F, 0, none⟩ = some (.int .i64 (p : Int))) (hs : w.cell? ⟨B3, 0, none⟩ = some (.pointer (some ⟨b, 0, none⟩))) {v : Value} (hb : w.cell? ⟨b, 1, none⟩ = some v) (hf : w.frozen? ⟨b, 1, none⟩ = false) :
    CallsD Try.prog 50 #[.pointer (some ⟨E, 0, none⟩), .pointer (some ⟨F, 0, none⟩), .pointer (some ⟨B3, 0, none⟩)] .returning w (fun e u' w' => u' = .returning ∧ (e = .returned (.tuple #[]) ∧ w' = w.setCell ⟨b, 1, none⟩ (.int .i64 (p : Int)))) := by
  have hne : (code != 0) = true := by simpa using hc
  go_enter_d Try.func50, Try.ntmps50
  go_wp2_with fail
  first | go_end0 | refine bodyPost_ret (results_none rfl _ _ _) rfl ?_
  exact ⟨rfl, rfl⟩
theorem backu_ok (b E F B3 : Nat) (w : World) (he : w.cell? ⟨E, 0, none⟩ = some (.int .i64 0)) :
    CallsD Try.prog 50 #[.pointer (some ⟨E, 0, none⟩), .pointer (some ⟨F, 0, none⟩), .pointer (some ⟨B3, 0, none⟩)] .returning w (fun e u' w' => u' = .returning ∧ (e = .returned (.tuple #[]) ∧ w' = w)) := by
  go_enter_d Try.func50, Try.ntmps50
  go_wp2_with fail
  first | go_end0 | refine bodyPost_ret (results_none rfl _ _ _) rfl ?_
  exact ⟨rfl, rfl⟩

theorem back8_err (b E F B3 : Nat) (p : Nat) (code : Int) (w : World) (he : w.cell? ⟨E, 0, none⟩ = some (.int .i64 code)) (hc : code ≠ 0) (hp : w.cell? ⟨F, 0, none⟩ = some (.int .i64 (p : Int))) (hs : w.cell? ⟨B3, 0, none⟩ = some (.pointer (some ⟨b, 0, none⟩))) {v : Value} (hb : w.cell? ⟨b, 1, none⟩ = some v) (hf : w.frozen? ⟨b, 1, none⟩ = false) :
    CallsD Try.prog 53 #[.pointer (some ⟨E, 0, none⟩), .pointer (some ⟨F, 0, none⟩), .pointer (some ⟨B3, 0, none⟩)] .returning w (fun e u' w' => u' = .returning ∧ (e = .returned (.tuple #[]) ∧ w' = w.setCell ⟨b, 1, none⟩ (.int .i64 (p : Int)))) := by
  have hne : (code != 0) = true := by simpa using hc
  go_enter_d Try.func53, Try.ntmps53
  go_wp2_with fail
  first | go_end0 | refine bodyPost_ret (results_none rfl _ _ _) rfl ?_
  exact ⟨rfl, rfl⟩
theorem back8_ok (b E F B3 : Nat) (w : World) (he : w.cell? ⟨E, 0, none⟩ = some (.int .i64 0)) :
    CallsD Try.prog 53 #[.pointer (some ⟨E, 0, none⟩), .pointer (some ⟨F, 0, none⟩), .pointer (some ⟨B3, 0, none⟩)] .returning w (fun e u' w' => u' = .returning ∧ (e = .returned (.tuple #[]) ∧ w' = w)) := by
  go_enter_d Try.func53, Try.ntmps53
  go_wp2_with fail
  first | go_end0 | refine bodyPost_ret (results_none rfl _ _ _) rfl ?_
  exact ⟨rfl, rfl⟩

theorem backo_err (b E F B3 : Nat) (p : Nat) (code : Int) (w : World) (he : w.cell? ⟨E, 0, none⟩ = some (.int .i64 code)) (hc : code ≠ 0) (hp : w.cell? ⟨F, 0, none⟩ = some (.int .i64 (p : Int))) (hs : w.cell? ⟨B3, 0, none⟩ = some (.pointer (some ⟨b, 0, none⟩))) {v : Value} (hb : w.cell? ⟨b, 1, none⟩ = some v) (hf : w.frozen? ⟨b, 1, none⟩ = false) :
    CallsD Try.prog 54 #[.pointer (some ⟨E, 0, none⟩), .pointer (some ⟨F, 0, none⟩), .pointer (some ⟨B3, 0, none⟩)] .returning w (fun e u' w' => u' = .returning ∧ (e = .returned (.tuple #[]) ∧ w' = w.setCell ⟨b, 1, none⟩ (.int .i64 (p : Int)))) := by
  have hne : (code != 0) = true := by simpa using hc
  go_enter_d Try.func54, Try.ntmps54
  go_wp2_with fail
  first | go_end0 | refine bodyPost_ret (results_none rfl _ _ _) rfl ?_
  exact ⟨rfl, rfl⟩
theorem backo_ok (b E F B3 : Nat) (w : World) (he : w.cell? ⟨E, 0, none⟩ = some (.int .i64 0)) :
    CallsD Try.prog 54 #[.pointer (some ⟨E, 0, none⟩), .pointer (some ⟨F, 0, none⟩), .pointer (some ⟨B3, 0, none⟩)] .returning w (fun e u' w' => u' = .returning ∧ (e = .returned (.tuple #[]) ∧ w' = w)) := by
  go_enter_d Try.func54, Try.ntmps54
  go_wp2_with fail
  first | go_end0 | refine bodyPost_ret (results_none rfl _ _ _) rfl ?_
  exact ⟨rfl, rfl⟩

theorem backw_err (b E F B3 : Nat) (p : Nat) (code : Int) (w : World) (he : w.cell? ⟨E, 0, none⟩ = some (.int .i64 code)) (hc : code ≠ 0) (hp : w.cell? ⟨F, 0, none⟩ = some (.int .i64 (p : Int))) (hs : w.cell? ⟨B3, 0, none⟩ = some (.pointer (some ⟨b, 0, none⟩))) {v : Value} (hb : w.cell? ⟨b, 1, none⟩ = some v) (hf : w.frozen? ⟨b, 1, none⟩ = false) :
    CallsD Try.prog 55 #[.pointer (some ⟨E, 0, none⟩), .pointer (some ⟨F, 0, none⟩), .pointer (some ⟨B3, 0, none⟩)] .returning w (fun e u' w' => u' = .returning ∧ (e = .returned (.tuple #[]) ∧ w' = w.setCell ⟨b, 1, none⟩ (.int .i64 (p : Int)))) := by
  have hne : (code != 0) = true := by simpa using hc
  go_enter_d Try.func55, Try.ntmps55
  go_wp2_with fail
  first | go_end0 | refine bodyPost_ret (results_none rfl _ _ _) rfl ?_
  exact ⟨rfl, rfl⟩
theorem backw_ok (b E F B3 : Nat) (w : World) (he : w.cell? ⟨E, 0, none⟩ = some (.int .i64 0)) :
    CallsD Try.prog 55 #[.pointer (some ⟨E, 0, none⟩), .pointer (some ⟨F, 0, none⟩), .pointer (some ⟨B3, 0, none⟩)] .returning w (fun e u' w' => u' = .returning ∧ (e = .returned (.tuple #[]) ∧ w' = w)) := by
  go_enter_d Try.func55, Try.ntmps55
  go_wp2_with fail
  first | go_end0 | refine bodyPost_ret (results_none rfl _ _ _) rfl ?_
  exact ⟨rfl, rfl⟩

set_option maxRecDepth 100000 in
set_option maxHeartbeats 2000000 in
theorem drawBits_any (b g c : Nat) (s : ByteArray) (p : Nat) (caps : Array Value) (OK : World → Value → Nat → World → Prop) (NO : Prop) (w : World) (h : Sup w b g c s p)
    (hK : ∀ (w1 : World) (t : Value), Sup w1 b g c s p → IsTk w1 t b → Gr w w1 → Calls Try.prog 42 (#[t] ++ caps) w1 (fun e w2 =>
      (∃ v q, e = .returned (.tuple #[v, .int .i64 0]) ∧ Sup w2 b g c s q ∧ Ex b w1 w2 ∧ OK w1 v q w2) ∨ (e = .returned (.tuple #[.int .u64 0, .int .i64 4]) ∧ (∃ q, Sup w2 b g c s q) ∧ Ex b w1 w2 ∧ NO)))
    (hst : ∀ w1 v q w2 E u, E < w1.heap.size → OK w1 v q w2 → OK w1 v q (w2.setCell ⟨E, 0, none⟩ u)) :
    Calls Try.prog 32 #[.pointer (some ⟨b, 0, none⟩), .bool true, .func (.func 42) #[] caps] w (fun e w' =>
      (∃ w1 v q, e = .returned (.tuple #[v, .int .i64 0]) ∧ Sup w' b g c s q ∧ Ex b w w' ∧ Gr w w1 ∧ OK w1 v q w') ∨ (e = .returned (.tuple #[.int .u64 0, .int .i64 4]) ∧ Sup w' b g c s p ∧ Ex b w w' ∧ NO)) := by
  have H := Lib.hid h
  have HK := Lib.hid hK
  have HST := Lib.hid hst
  have c1 := h.c1
  obtain ⟨hlt, hlg⟩ := h.lt
  have hmf : ∀ (fn : Fn) (first cap : Array Value) (w : World), (Instr.makeFunc fn first cap).run Try.prog w = .ok (.func fn first cap) w := fun _ _ _ _ => rfl
  have hb0 : ¬ b = w.heap.size := by omega
  have hb1 : ¬ b = w.heap.size + 1 := by omega
  have hb2 : ¬ b = w.heap.size + 1 + 1 := by omega
  have hb0' : ¬ w.heap.size = b := by omega
  have hb1' : ¬ w.heap.size + 1 = b := by omega
  have hb2' : ¬ w.heap.size + 1 + 1 = b := by omega
  clear h hK hst
  go_enter_defers Try.func32, Try.ntmps32
  go_wp2_with (first | (go_at_call 31; refine (made_any b g c s p _ (H.out.later (((Gr.refl w).alloc _).alloc _))).mono ?_; rintro e w1 ⟨rfl, rfl⟩) | (go_at_call 51; refine (takernew_any b _).mono ?_; rintro e w1 ⟨rfl, rfl⟩))
  have hgr : Gr w ((((w.alloc (Obj.cells #[Value.pointer (some ⟨b, 0, none⟩)] 24)).alloc (Obj.cells #[Value.int .i64 0] 40)).alloc (Obj.cells #[Value.int .i64 (p : Int)] 3)).alloc (Obj.cells #[Value.pointer (some ⟨b, 0, none⟩)] 24)) := (((Gr.new w _).alloc _).alloc _).alloc _
  have x0 : World.cell? ((((w.alloc (Obj.cells #[Value.pointer (some ⟨b, 0, none⟩)] 24)).alloc (Obj.cells #[Value.int .i64 0] 40)).alloc (Obj.cells #[Value.int .i64 (p : Int)] 3)).alloc (Obj.cells #[Value.pointer (some ⟨b, 0, none⟩)] 24)) ⟨w.heap.size, 0, none⟩ = some (.pointer (some ⟨b, 0, none⟩)) := (((Gr.refl _).alloc _).alloc _ |>.alloc _).keeps (cell_new w _ _)
  have x1 : World.cell? ((((w.alloc (Obj.cells #[Value.pointer (some ⟨b, 0, none⟩)] 24)).alloc (Obj.cells #[Value.int .i64 0] 40)).alloc (Obj.cells #[Value.int .i64 (p : Int)] 3)).alloc (Obj.cells #[Value.pointer (some ⟨b, 0, none⟩)] 24)) ⟨w.heap.size + 1, 0, none⟩ = some (.int .i64 0) := by
    have := cell_new (w.alloc (Obj.cells #[Value.pointer (some ⟨b, 0, none⟩)] 24)) (.int .i64 0) 40
    rw [World.size_alloc] at this
    exact ((Gr.refl _).alloc _ |>.alloc _).keeps this
  have x2 : World.cell? ((((w.alloc (Obj.cells #[Value.pointer (some ⟨b, 0, none⟩)] 24)).alloc (Obj.cells #[Value.int .i64 0] 40)).alloc (Obj.cells #[Value.int .i64 (p : Int)] 3)).alloc (Obj.cells #[Value.pointer (some ⟨b, 0, none⟩)] 24)) ⟨w.heap.size + 1 + 1, 0, none⟩ = some (.int .i64 (p : Int)) := by
    have := cell_new ((w.alloc (Obj.cells #[Value.pointer (some ⟨b, 0, none⟩)] 24)).alloc (Obj.cells #[Value.int .i64 0] 40)) (.int .i64 (p : Int)) 3
    rw [World.size_alloc, World.size_alloc] at this
    exact ((Gr.refl _).alloc _).keeps this
  have x3 : World.cell? ((((w.alloc (Obj.cells #[Value.pointer (some ⟨b, 0, none⟩)] 24)).alloc (Obj.cells #[Value.int .i64 0] 40)).alloc (Obj.cells #[Value.int .i64 (p : Int)] 3)).alloc (Obj.cells #[Value.pointer (some ⟨b, 0, none⟩)] 24)) ⟨w.heap.size + 1 + 1 + 1, 0, none⟩ = some (.pointer (some ⟨b, 0, none⟩)) := by
    have := cell_new (((w.alloc (Obj.cells #[Value.pointer (some ⟨b, 0, none⟩)] 24)).alloc (Obj.cells #[Value.int .i64 0] 40)).alloc (Obj.cells #[Value.int .i64 (p : Int)] 3)) (.pointer (some ⟨b, 0, none⟩)) 24
    rw [World.size_alloc, World.size_alloc, World.size_alloc] at this
    exact this
  have fE : World.frozen? ((((w.alloc (Obj.cells #[Value.pointer (some ⟨b, 0, none⟩)] 24)).alloc (Obj.cells #[Value.int .i64 0] 40)).alloc (Obj.cells #[Value.int .i64 (p : Int)] 3)).alloc (Obj.cells #[Value.pointer (some ⟨b, 0, none⟩)] 24)) ⟨w.heap.size + 1, 0, none⟩ = false := by
    simp [go_sem]
  generalize ((((w.alloc (Obj.cells #[Value.pointer (some ⟨b, 0, none⟩)] 24)).alloc (Obj.cells #[Value.int .i64 0] 40)).alloc (Obj.cells #[Value.int .i64 (p : Int)] 3)).alloc (Obj.cells #[Value.pointer (some ⟨b, 0, none⟩)] 24)) = W4 at hgr x0 x1 x2 x3 fE ⊢
  obtain ⟨B3, hB3⟩ : ∃ B3, B3 = w.heap.size := ⟨_, rfl⟩
  obtain ⟨E, hE⟩ : ∃ E, E = w.heap.size + 1 := ⟨_, rfl⟩
  obtain ⟨F, hF⟩ : ∃ F, F = w.heap.size + 1 + 1 := ⟨_, rfl⟩
  obtain ⟨T, hT⟩ : ∃ T, T = w.heap.size + 1 + 1 + 1 := ⟨_, rfl⟩
  rw [← hT] at x3 ⊢
  rw [← hF] at x2 ⊢
  rw [← hE] at x1 fE ⊢
  rw [← hB3] at x0 ⊢
  have n0 : B3 ≠ b := by omega
  have n1 : E ≠ b := by omega
  have n2 : F ≠ b := by omega
  have n3 : T ≠ b := by omega
  have hwE : w.heap.size ≤ E := by omega
  have hsep : g < w.heap.size ∧ E = w.heap.size + 1 ∧ F = w.heap.size + 1 + 1 ∧ B3 = w.heap.size := ⟨by omega, by omega, by omega, by omega⟩
  have HSEP := Lib.hid hsep
  clear hsep hB3 hE hF hT hb0 hb1 hb2 hb0' hb1' hb2'
  have hEW : E < W4.heap.size := lt_of_cell x1
  refine (HK.out W4 _ (H.out.later hgr) ⟨T, rfl, n3, x3⟩ hgr).mono ?_
  rintro e w2 (⟨v, q, rfl, hs2, hx2, hok⟩ | ⟨rfl, ⟨q, hs2⟩, hx2, hno⟩)
  · have y1 := hx2.keeps x1 n1
    have yf : w2.frozen? ⟨E, 0, none⟩ = false := (hx2.frozen (p := ⟨E, 0, none⟩) hEW n1).trans fE
    have y3 : (w2.setCell ⟨E, 0, none⟩ (.int .i64 0)).cell? ⟨E, 0, none⟩ = some (.int .i64 0) := World.cell?_setCell_same _ _ _ y1
    go_wp2_with fail
    refine leaves_cons (f := 50) (args := #[.pointer (some ⟨E, 0, none⟩), .pointer (some ⟨F, 0, none⟩), .pointer (some ⟨B3, 0, none⟩)]) (by simp) (by simp [go_sem]) ?_
    refine (backu_ok b E F B3 _ y3).mono ?_
    rintro e u' w3 ⟨rfl, rfl, rfl⟩
    refine ⟨.tuple #[v, .int .i64 0], ?_, .inl ⟨W4, v, q, rfl, ?_, ?_, hgr, HST.out _ _ _ _ _ _ hEW hok⟩⟩
    · simp [results, Try.results32, go_sem, y3]
    · exact hs2.other (by simpa using n1) (by have := HSEP.out; show E ≠ g; omega) _
    · exact ((Ex.of hgr b).trans hx2).setCell (.inr hwE) _
  · have y1 := hx2.keeps x1 n1
    have y0 := hx2.keeps x0 n0
    have y2 := hx2.keeps x2 n2
    have hFE : F ≠ E := by have := HSEP.out; omega
    have hBE : B3 ≠ E := by have := HSEP.out; omega
    have yf : w2.frozen? ⟨E, 0, none⟩ = false := (hx2.frozen (p := ⟨E, 0, none⟩) hEW n1).trans fE
    have hs3 : Sup (w2.setCell ⟨E, 0, none⟩ (.int .i64 4)) b g c s q := hs2.other (by simpa using n1) (by have := HSEP.out; show E ≠ g; omega) _
    have y3 : (w2.setCell ⟨E, 0, none⟩ (.int .i64 4)).cell? ⟨E, 0, none⟩ = some (.int .i64 4) := World.cell?_setCell_same _ _ _ y1
    have z2 : (w2.setCell ⟨E, 0, none⟩ (.int .i64 4)).cell? ⟨F, 0, none⟩ = some (.int .i64 (p : Int)) := by
      rw [World.cell?_setCell_other _ _ _ _ (by intro e; cases e; exact hFE rfl)]; exact y2
    have z0 : (w2.setCell ⟨E, 0, none⟩ (.int .i64 4)).cell? ⟨B3, 0, none⟩ = some (.pointer (some ⟨b, 0, none⟩)) := by
      rw [World.cell?_setCell_other _ _ _ _ (by intro e; cases e; exact hBE rfl)]; exact y0
    have z3 : ((w2.setCell ⟨E, 0, none⟩ (.int .i64 4)).setCell ⟨b, 1, none⟩ (.int .i64 (p : Int))).cell? ⟨E, 0, none⟩ = some (.int .i64 4) := by
      rw [World.cell?_setCell_other _ _ _ _ (by intro e; cases e)]; exact y3
    go_wp2_with fail
    refine leaves_cons (f := 50) (args := #[.pointer (some ⟨E, 0, none⟩), .pointer (some ⟨F, 0, none⟩), .pointer (some ⟨B3, 0, none⟩)]) (by simp) (by simp [go_sem]) ?_
    refine (backu_err b E F B3 p 4 _ y3 (by decide) z2 z0 hs3.c1 (hs3.fz 1)).mono ?_
    rintro e u' w3 ⟨rfl, rfl, rfl⟩
    refine ⟨.tuple #[.int .u64 0, .int .i64 4], ?_, .inr ⟨rfl, ?_, ?_, hno⟩⟩
    · simp [results, Try.results32, go_sem, z3]
    · exact hs3.set rfl H.out.place
    · exact (((Ex.of hgr b).trans hx2).setCell (.inr hwE) _).setCell (.inl rfl) _

set_option maxRecDepth 100000 in
set_option maxHeartbeats 2000000 in
theorem drawBelow_any (b g c : Nat) (s : ByteArray) (p : Nat) (caps : Array Value) (OK : World → Value → Nat → World → Prop) (NO : Prop) (w : World) (h : Sup w b g c s p)
    (hK : ∀ (w1 : World) (t : Value), Sup w1 b g c s p → IsTk w1 t b → Gr w w1 → Calls Try.prog 33 (#[t] ++ caps) w1 (fun e w2 =>
      (∃ v q, e = .returned (.tuple #[v, .int .i64 0]) ∧ Sup w2 b g c s q ∧ Ex b w1 w2 ∧ OK w1 v q w2) ∨ (e = .returned (.tuple #[.int .u64 0, .int .i64 4]) ∧ (∃ q, Sup w2 b g c s q) ∧ Ex b w1 w2 ∧ NO)))
    (hst : ∀ w1 v q w2 E u, E < w1.heap.size → OK w1 v q w2 → OK w1 v q (w2.setCell ⟨E, 0, none⟩ u)) :
    Calls Try.prog 32 #[.pointer (some ⟨b, 0, none⟩), .bool true, .func (.func 33) #[] caps] w (fun e w' =>
      (∃ w1 v q, e = .returned (.tuple #[v, .int .i64 0]) ∧ Sup w' b g c s q ∧ Ex b w w' ∧ Gr w w1 ∧ OK w1 v q w') ∨ (e = .returned (.tuple #[.int .u64 0, .int .i64 4]) ∧ Sup w' b g c s p ∧ Ex b w w' ∧ NO)) := by
  have H := Lib.hid h
  have HK := Lib.hid hK
  have HST := Lib.hid hst
  have c1 := h.c1
  obtain ⟨hlt, hlg⟩ := h.lt
  have hmf : ∀ (fn : Fn) (first cap : Array Value) (w : World), (Instr.makeFunc fn first cap).run Try.prog w = .ok (.func fn first cap) w := fun _ _ _ _ => rfl
  have hb0 : ¬ b = w.heap.size := by omega
  have hb1 : ¬ b = w.heap.size + 1 := by omega
  have hb2 : ¬ b = w.heap.size + 1 + 1 := by omega
  have hb0' : ¬ w.heap.size = b := by omega
  have hb1' : ¬ w.heap.size + 1 = b := by omega
  have hb2' : ¬ w.heap.size + 1 + 1 = b := by omega
  clear h hK hst
  go_enter_defers Try.func32, Try.ntmps32
  go_wp2_with (first | (go_at_call 31; refine (made_any b g c s p _ (H.out.later (((Gr.refl w).alloc _).alloc _))).mono ?_; rintro e w1 ⟨rfl, rfl⟩) | (go_at_call 51; refine (takernew_any b _).mono ?_; rintro e w1 ⟨rfl, rfl⟩))
  have hgr : Gr w ((((w.alloc (Obj.cells #[Value.pointer (some ⟨b, 0, none⟩)] 24)).alloc (Obj.cells #[Value.int .i64 0] 40)).alloc (Obj.cells #[Value.int .i64 (p : Int)] 3)).alloc (Obj.cells #[Value.pointer (some ⟨b, 0, none⟩)] 24)) := (((Gr.new w _).alloc _).alloc _).alloc _
  have x0 : World.cell? ((((w.alloc (Obj.cells #[Value.pointer (some ⟨b, 0, none⟩)] 24)).alloc (Obj.cells #[Value.int .i64 0] 40)).alloc (Obj.cells #[Value.int .i64 (p : Int)] 3)).alloc (Obj.cells #[Value.pointer (some ⟨b, 0, none⟩)] 24)) ⟨w.heap.size, 0, none⟩ = some (.pointer (some ⟨b, 0, none⟩)) := (((Gr.refl _).alloc _).alloc _ |>.alloc _).keeps (cell_new w _ _)
  have x1 : World.cell? ((((w.alloc (Obj.cells #[Value.pointer (some ⟨b, 0, none⟩)] 24)).alloc (Obj.cells #[Value.int .i64 0] 40)).alloc (Obj.cells #[Value.int .i64 (p : Int)] 3)).alloc (Obj.cells #[Value.pointer (some ⟨b, 0, none⟩)] 24)) ⟨w.heap.size + 1, 0, none⟩ = some (.int .i64 0) := by
    have := cell_new (w.alloc (Obj.cells #[Value.pointer (some ⟨b, 0, none⟩)] 24)) (.int .i64 0) 40
    rw [World.size_alloc] at this
    exact ((Gr.refl _).alloc _ |>.alloc _).keeps this
  have x2 : World.cell? ((((w.alloc (Obj.cells #[Value.pointer (some ⟨b, 0, none⟩)] 24)).alloc (Obj.cells #[Value.int .i64 0] 40)).alloc (Obj.cells #[Value.int .i64 (p : Int)] 3)).alloc (Obj.cells #[Value.pointer (some ⟨b, 0, none⟩)] 24)) ⟨w.heap.size + 1 + 1, 0, none⟩ = some (.int .i64 (p : Int)) := by
    have := cell_new ((w.alloc (Obj.cells #[Value.pointer (some ⟨b, 0, none⟩)] 24)).alloc (Obj.cells #[Value.int .i64 0] 40)) (.int .i64 (p : Int)) 3
    rw [World.size_alloc, World.size_alloc] at this
    exact ((Gr.refl _).alloc _).keeps this
  have x3 : World.cell? ((((w.alloc (Obj.cells #[Value.pointer (some ⟨b, 0, none⟩)] 24)).alloc (Obj.cells #[Value.int .i64 0] 40)).alloc (Obj.cells #[Value.int .i64 (p : Int)] 3)).alloc (Obj.cells #[Value.pointer (some ⟨b, 0, none⟩)] 24)) ⟨w.heap.size + 1 + 1 + 1, 0, none⟩ = some (.pointer (some ⟨b, 0, none⟩)) := by
    have := cell_new (((w.alloc (Obj.cells #[Value.pointer (some ⟨b, 0, none⟩)] 24)).alloc (Obj.cells #[Value.int .i64 0] 40)).alloc (Obj.cells #[Value.int .i64 (p : Int)] 3)) (.pointer (some ⟨b, 0, none⟩)) 24
    rw [World.size_alloc, World.size_alloc, World.size_alloc] at this
    exact this
  have fE : World.frozen? ((((w.alloc (Obj.cells #[Value.pointer (some ⟨b, 0, none⟩)] 24)).alloc (Obj.cells #[Value.int .i64 0] 40)).alloc (Obj.cells #[Value.int .i64 (p : Int)] 3)).alloc (Obj.cells #[Value.pointer (some ⟨b, 0, none⟩)] 24)) ⟨w.heap.size + 1, 0, none⟩ = false := by
    simp [go_sem]
  generalize ((((w.alloc (Obj.cells #[Value.pointer (some ⟨b, 0, none⟩)] 24)).alloc (Obj.cells #[Value.int .i64 0] 40)).alloc (Obj.cells #[Value.int .i64 (p : Int)] 3)).alloc (Obj.cells #[Value.pointer (some ⟨b, 0, none⟩)] 24)) = W4 at hgr x0 x1 x2 x3 fE ⊢
  obtain ⟨B3, hB3⟩ : ∃ B3, B3 = w.heap.size := ⟨_, rfl⟩
  obtain ⟨E, hE⟩ : ∃ E, E = w.heap.size + 1 := ⟨_, rfl⟩
  obtain ⟨F, hF⟩ : ∃ F, F = w.heap.size + 1 + 1 := ⟨_, rfl⟩
  obtain ⟨T, hT⟩ : ∃ T, T = w.heap.size + 1 + 1 + 1 := ⟨_, rfl⟩
  rw [← hT] at x3 ⊢
  rw [← hF] at x2 ⊢
  rw [← hE] at x1 fE ⊢
  rw [← hB3] at x0 ⊢
  have n0 : B3 ≠ b := by omega
  have n1 : E ≠ b := by omega
  have n2 : F ≠ b := by omega
  have n3 : T ≠ b := by omega
  have hwE : w.heap.size ≤ E := by omega
  have hsep : g < w.heap.size ∧ E = w.heap.size + 1 ∧ F = w.heap.size + 1 + 1 ∧ B3 = w.heap.size := ⟨by omega, by omega, by omega, by omega⟩
  have HSEP := Lib.hid hsep
  clear hsep hB3 hE hF hT hb0 hb1 hb2 hb0' hb1' hb2'
  have hEW : E < W4.heap.size := lt_of_cell x1
  refine (HK.out W4 _ (H.out.later hgr) ⟨T, rfl, n3, x3⟩ hgr).mono ?_
  rintro e w2 (⟨v, q, rfl, hs2, hx2, hok⟩ | ⟨rfl, ⟨q, hs2⟩, hx2, hno⟩)
  · have y1 := hx2.keeps x1 n1
    have yf : w2.frozen? ⟨E, 0, none⟩ = false := (hx2.frozen (p := ⟨E, 0, none⟩) hEW n1).trans fE
    have y3 : (w2.setCell ⟨E, 0, none⟩ (.int .i64 0)).cell? ⟨E, 0, none⟩ = some (.int .i64 0) := World.cell?_setCell_same _ _ _ y1
    go_wp2_with fail
    refine leaves_cons (f := 50) (args := #[.pointer (some ⟨E, 0, none⟩), .pointer (some ⟨F, 0, none⟩), .pointer (some ⟨B3, 0, none⟩)]) (by simp) (by simp [go_sem]) ?_
    refine (backu_ok b E F B3 _ y3).mono ?_
    rintro e u' w3 ⟨rfl, rfl, rfl⟩
    refine ⟨.tuple #[v, .int .i64 0], ?_, .inl ⟨W4, v, q, rfl, ?_, ?_, hgr, HST.out _ _ _ _ _ _ hEW hok⟩⟩
    · simp [results, Try.results32, go_sem, y3]
    · exact hs2.other (by simpa using n1) (by have := HSEP.out; show E ≠ g; omega) _
    · exact ((Ex.of hgr b).trans hx2).setCell (.inr hwE) _
  · have y1 := hx2.keeps x1 n1
    have y0 := hx2.keeps x0 n0
    have y2 := hx2.keeps x2 n2
    have hFE : F ≠ E := by have := HSEP.out; omega
    have hBE : B3 ≠ E := by have := HSEP.out; omega
    have yf : w2.frozen? ⟨E, 0, none⟩ = false := (hx2.frozen (p := ⟨E, 0, none⟩) hEW n1).trans fE
    have hs3 : Sup (w2.setCell ⟨E, 0, none⟩ (.int .i64 4)) b g c s q := hs2.other (by simpa using n1) (by have := HSEP.out; show E ≠ g; omega) _
    have y3 : (w2.setCell ⟨E, 0, none⟩ (.int .i64 4)).cell? ⟨E, 0, none⟩ = some (.int .i64 4) := World.cell?_setCell_same _ _ _ y1
    have z2 : (w2.setCell ⟨E, 0, none⟩ (.int .i64 4)).cell? ⟨F, 0, none⟩ = some (.int .i64 (p : Int)) := by
      rw [World.cell?_setCell_other _ _ _ _ (by intro e; cases e; exact hFE rfl)]; exact y2
    have z0 : (w2.setCell ⟨E, 0, none⟩ (.int .i64 4)).cell? ⟨B3, 0, none⟩ = some (.pointer (some ⟨b, 0, none⟩)) := by
      rw [World.cell?_setCell_other _ _ _ _ (by intro e; cases e; exact hBE rfl)]; exact y0
    have z3 : ((w2.setCell ⟨E, 0, none⟩ (.int .i64 4)).setCell ⟨b, 1, none⟩ (.int .i64 (p : Int))).cell? ⟨E, 0, none⟩ = some (.int .i64 4) := by
      rw [World.cell?_setCell_other _ _ _ _ (by intro e; cases e)]; exact y3
    go_wp2_with fail
    refine leaves_cons (f := 50) (args := #[.pointer (some ⟨E, 0, none⟩), .pointer (some ⟨F, 0, none⟩), .pointer (some ⟨B3, 0, none⟩)]) (by simp) (by simp [go_sem]) ?_
    refine (backu_err b E F B3 p 4 _ y3 (by decide) z2 z0 hs3.c1 (hs3.fz 1)).mono ?_
    rintro e u' w3 ⟨rfl, rfl, rfl⟩
    refine ⟨.tuple #[.int .u64 0, .int .i64 4], ?_, .inr ⟨rfl, ?_, ?_, hno⟩⟩
    · simp [results, Try.results32, go_sem, z3]
    · exact hs3.set rfl H.out.place
    · exact (((Ex.of hgr b).trans hx2).setCell (.inr hwE) _).setCell (.inl rfl) _

set_option maxRecDepth 100000 in
set_option maxHeartbeats 2000000 in
theorem drawUniform_any (b g c : Nat) (s : ByteArray) (p : Nat) (caps : Array Value) (OK : World → Value → Nat → World → Prop) (NO : Prop) (w : World) (h : Sup w b g c s p)
    (hK : ∀ (w1 : World) (t : Value), Sup w1 b g c s p → IsTk w1 t b → Gr w w1 → Calls Try.prog 44 (#[t] ++ caps) w1 (fun e w2 =>
      (∃ v q, e = .returned (.tuple #[v, .int .i64 0]) ∧ Sup w2 b g c s q ∧ Ex b w1 w2 ∧ OK w1 v q w2) ∨ (e = .returned (.tuple #[.slice none 0 0, .int .i64 4]) ∧ (∃ q, Sup w2 b g c s q) ∧ Ex b w1 w2 ∧ NO)))
    (hst : ∀ w1 v q w2 E u, E < w1.heap.size → OK w1 v q w2 → OK w1 v q (w2.setCell ⟨E, 0, none⟩ u)) :
    Calls Try.prog 43 #[.pointer (some ⟨b, 0, none⟩), .bool true, .func (.func 44) #[] caps] w (fun e w' =>
      (∃ w1 v q, e = .returned (.tuple #[v, .int .i64 0]) ∧ Sup w' b g c s q ∧ Ex b w w' ∧ Gr w w1 ∧ OK w1 v q w') ∨ (e = .returned (.tuple #[.slice none 0 0, .int .i64 4]) ∧ Sup w' b g c s p ∧ Ex b w w' ∧ NO)) := by
  have H := Lib.hid h
  have HK := Lib.hid hK
  have HST := Lib.hid hst
  have c1 := h.c1
  obtain ⟨hlt, hlg⟩ := h.lt
  have hmf : ∀ (fn : Fn) (first cap : Array Value) (w : World), (Instr.makeFunc fn first cap).run Try.prog w = .ok (.func fn first cap) w := fun _ _ _ _ => rfl
  have hb0 : ¬ b = w.heap.size := by omega
  have hb1 : ¬ b = w.heap.size + 1 := by omega
  have hb2 : ¬ b = w.heap.size + 1 + 1 := by omega
  have hb0' : ¬ w.heap.size = b := by omega
  have hb1' : ¬ w.heap.size + 1 = b := by omega
  have hb2' : ¬ w.heap.size + 1 + 1 = b := by omega
  clear h hK hst
  go_enter_defers Try.func43, Try.ntmps43
  go_wp2_with (first | (go_at_call 31; refine (made_any b g c s p _ (H.out.later (((Gr.refl w).alloc _).alloc _))).mono ?_; rintro e w1 ⟨rfl, rfl⟩) | (go_at_call 51; refine (takernew_any b _).mono ?_; rintro e w1 ⟨rfl, rfl⟩))
  have hgr : Gr w ((((w.alloc (Obj.cells #[Value.pointer (some ⟨b, 0, none⟩)] 24)).alloc (Obj.cells #[Value.int .i64 0] 40)).alloc (Obj.cells #[Value.int .i64 (p : Int)] 3)).alloc (Obj.cells #[Value.pointer (some ⟨b, 0, none⟩)] 24)) := (((Gr.new w _).alloc _).alloc _).alloc _
  have x0 : World.cell? ((((w.alloc (Obj.cells #[Value.pointer (some ⟨b, 0, none⟩)] 24)).alloc (Obj.cells #[Value.int .i64 0] 40)).alloc (Obj.cells #[Value.int .i64 (p : Int)] 3)).alloc (Obj.cells #[Value.pointer (some ⟨b, 0, none⟩)] 24)) ⟨w.heap.size, 0, none⟩ = some (.pointer (some ⟨b, 0, none⟩)) := (((Gr.refl _).alloc _).alloc _ |>.alloc _).keeps (cell_new w _ _)
  have x1 : World.cell? ((((w.alloc (Obj.cells #[Value.pointer (some ⟨b, 0, none⟩)] 24)).alloc (Obj.cells #[Value.int .i64 0] 40)).alloc (Obj.cells #[Value.int .i64 (p : Int)] 3)).alloc (Obj.cells #[Value.pointer (some ⟨b, 0, none⟩)] 24)) ⟨w.heap.size + 1, 0, none⟩ = some (.int .i64 0) := by
    have := cell_new (w.alloc (Obj.cells #[Value.pointer (some ⟨b, 0, none⟩)] 24)) (.int .i64 0) 40
    rw [World.size_alloc] at this
    exact ((Gr.refl _).alloc _ |>.alloc _).keeps this
  have x2 : World.cell? ((((w.alloc (Obj.cells #[Value.pointer (some ⟨b, 0, none⟩)] 24)).alloc (Obj.cells #[Value.int .i64 0] 40)).alloc (Obj.cells #[Value.int .i64 (p : Int)] 3)).alloc (Obj.cells #[Value.pointer (some ⟨b, 0, none⟩)] 24)) ⟨w.heap.size + 1 + 1, 0, none⟩ = some (.int .i64 (p : Int)) := by
    have := cell_new ((w.alloc (Obj.cells #[Value.pointer (some ⟨b, 0, none⟩)] 24)).alloc (Obj.cells #[Value.int .i64 0] 40)) (.int .i64 (p : Int)) 3
    rw [World.size_alloc, World.size_alloc] at this
    exact ((Gr.refl _).alloc _).keeps this
  have x3 : World.cell? ((((w.alloc (Obj.cells #[Value.pointer (some ⟨b, 0, none⟩)] 24)).alloc (Obj.cells #[Value.int .i64 0] 40)).alloc (Obj.cells #[Value.int .i64 (p : Int)] 3)).alloc (Obj.cells #[Value.pointer (some ⟨b, 0, none⟩)] 24)) ⟨w.heap.size + 1 + 1 + 1, 0, none⟩ = some (.pointer (some ⟨b, 0, none⟩)) := by
    have := cell_new (((w.alloc (Obj.cells #[Value.pointer (some ⟨b, 0, none⟩)] 24)).alloc (Obj.cells #[Value.int .i64 0] 40)).alloc (Obj.cells #[Value.int .i64 (p : Int)] 3)) (.pointer (some ⟨b, 0, none⟩)) 24
    rw [World.size_alloc, World.size_alloc, World.size_alloc] at this
    exact this
  have fE : World.frozen? ((((w.alloc (Obj.cells #[Value.pointer (some ⟨b, 0, none⟩)] 24)).alloc (Obj.cells #[Value.int .i64 0] 40)).alloc (Obj.cells #[Value.int .i64 (p : Int)] 3)).alloc (Obj.cells #[Value.pointer (some ⟨b, 0, none⟩)] 24)) ⟨w.heap.size + 1, 0, none⟩ = false := by
    simp [go_sem]
  generalize ((((w.alloc (Obj.cells #[Value.pointer (some ⟨b, 0, none⟩)] 24)).alloc (Obj.cells #[Value.int .i64 0] 40)).alloc (Obj.cells #[Value.int .i64 (p : Int)] 3)).alloc (Obj.cells #[Value.pointer (some ⟨b, 0, none⟩)] 24)) = W4 at hgr x0 x1 x2 x3 fE ⊢
  obtain ⟨B3, hB3⟩ : ∃ B3, B3 = w.heap.size := ⟨_, rfl⟩
  obtain ⟨E, hE⟩ : ∃ E, E = w.heap.size + 1 := ⟨_, rfl⟩
  obtain ⟨F, hF⟩ : ∃ F, F = w.heap.size + 1 + 1 := ⟨_, rfl⟩
  obtain ⟨T, hT⟩ : ∃ T, T = w.heap.size + 1 + 1 + 1 := ⟨_, rfl⟩
  rw [← hT] at x3 ⊢
  rw [← hF] at x2 ⊢
  rw [← hE] at x1 fE ⊢
  rw [← hB3] at x0 ⊢
  have n0 : B3 ≠ b := by omega
  have n1 : E ≠ b := by omega
  have n2 : F ≠ b := by omega
  have n3 : T ≠ b := by omega
  have hwE : w.heap.size ≤ E := by omega
  have hsep : g < w.heap.size ∧ E = w.heap.size + 1 ∧ F = w.heap.size + 1 + 1 ∧ B3 = w.heap.size := ⟨by omega, by omega, by omega, by omega⟩
  have HSEP := Lib.hid hsep
  clear hsep hB3 hE hF hT hb0 hb1 hb2 hb0' hb1' hb2'
  have hEW : E < W4.heap.size := lt_of_cell x1
  refine (HK.out W4 _ (H.out.later hgr) ⟨T, rfl, n3, x3⟩ hgr).mono ?_
  rintro e w2 (⟨v, q, rfl, hs2, hx2, hok⟩ | ⟨rfl, ⟨q, hs2⟩, hx2, hno⟩)
  · have y1 := hx2.keeps x1 n1
    have yf : w2.frozen? ⟨E, 0, none⟩ = false := (hx2.frozen (p := ⟨E, 0, none⟩) hEW n1).trans fE
    have y3 : (w2.setCell ⟨E, 0, none⟩ (.int .i64 0)).cell? ⟨E, 0, none⟩ = some (.int .i64 0) := World.cell?_setCell_same _ _ _ y1
    go_wp2_with fail
    refine leaves_cons (f := 55) (args := #[.pointer (some ⟨E, 0, none⟩), .pointer (some ⟨F, 0, none⟩), .pointer (some ⟨B3, 0, none⟩)]) (by simp) (by simp [go_sem]) ?_
    refine (backw_ok b E F B3 _ y3).mono ?_
    rintro e u' w3 ⟨rfl, rfl, rfl⟩
    refine ⟨.tuple #[v, .int .i64 0], ?_, .inl ⟨W4, v, q, rfl, ?_, ?_, hgr, HST.out _ _ _ _ _ _ hEW hok⟩⟩
    · simp [results, Try.results43, go_sem, y3]
    · exact hs2.other (by simpa using n1) (by have := HSEP.out; show E ≠ g; omega) _
    · exact ((Ex.of hgr b).trans hx2).setCell (.inr hwE) _
  · have y1 := hx2.keeps x1 n1
    have y0 := hx2.keeps x0 n0
    have y2 := hx2.keeps x2 n2
    have hFE : F ≠ E := by have := HSEP.out; omega
    have hBE : B3 ≠ E := by have := HSEP.out; omega
    have yf : w2.frozen? ⟨E, 0, none⟩ = false := (hx2.frozen (p := ⟨E, 0, none⟩) hEW n1).trans fE
    have hs3 : Sup (w2.setCell ⟨E, 0, none⟩ (.int .i64 4)) b g c s q := hs2.other (by simpa using n1) (by have := HSEP.out; show E ≠ g; omega) _
    have y3 : (w2.setCell ⟨E, 0, none⟩ (.int .i64 4)).cell? ⟨E, 0, none⟩ = some (.int .i64 4) := World.cell?_setCell_same _ _ _ y1
    have z2 : (w2.setCell ⟨E, 0, none⟩ (.int .i64 4)).cell? ⟨F, 0, none⟩ = some (.int .i64 (p : Int)) := by
      rw [World.cell?_setCell_other _ _ _ _ (by intro e; cases e; exact hFE rfl)]; exact y2
    have z0 : (w2.setCell ⟨E, 0, none⟩ (.int .i64 4)).cell? ⟨B3, 0, none⟩ = some (.pointer (some ⟨b, 0, none⟩)) := by
      rw [World.cell?_setCell_other _ _ _ _ (by intro e; cases e; exact hBE rfl)]; exact y0
    have z3 : ((w2.setCell ⟨E, 0, none⟩ (.int .i64 4)).setCell ⟨b, 1, none⟩ (.int .i64 (p : Int))).cell? ⟨E, 0, none⟩ = some (.int .i64 4) := by
      rw [World.cell?_setCell_other _ _ _ _ (by intro e; cases e)]; exact y3
    go_wp2_with fail
    refine leaves_cons (f := 55) (args := #[.pointer (some ⟨E, 0, none⟩), .pointer (some ⟨F, 0, none⟩), .pointer (some ⟨B3, 0, none⟩)]) (by simp) (by simp [go_sem]) ?_
    refine (backw_err b E F B3 p 4 _ y3 (by decide) z2 z0 hs3.c1 (hs3.fz 1)).mono ?_
    rintro e u' w3 ⟨rfl, rfl, rfl⟩
    refine ⟨.tuple #[.slice none 0 0, .int .i64 4], ?_, .inr ⟨rfl, ?_, ?_, hno⟩⟩
    · simp [results, Try.results43, go_sem, z3]
    · exact hs3.set rfl H.out.place
    · exact (((Ex.of hgr b).trans hx2).setCell (.inr hwE) _).setCell (.inl rfl) _

set_option maxRecDepth 100000 in
set_option maxHeartbeats 2000000 in
theorem drawTernary_any (b g c : Nat) (s : ByteArray) (p : Nat) (caps : Array Value) (OK : World → Value → Nat → World → Prop) (NO : Prop) (w : World) (h : Sup w b g c s p)
    (hK : ∀ (w1 : World) (t : Value), Sup w1 b g c s p → IsTk w1 t b → Gr w w1 → Calls Try.prog 36 (#[t] ++ caps) w1 (fun e w2 =>
      (∃ v q, e = .returned (.tuple #[v, .int .i64 0]) ∧ Sup w2 b g c s q ∧ Ex b w1 w2 ∧ OK w1 v q w2) ∨ (e = .returned (.tuple #[.slice none 0 0, .int .i64 4]) ∧ (∃ q, Sup w2 b g c s q) ∧ Ex b w1 w2 ∧ NO)))
    (hst : ∀ w1 v q w2 E u, E < w1.heap.size → OK w1 v q w2 → OK w1 v q (w2.setCell ⟨E, 0, none⟩ u)) :
    Calls Try.prog 35 #[.pointer (some ⟨b, 0, none⟩), .bool true, .func (.func 36) #[] caps] w (fun e w' =>
      (∃ w1 v q, e = .returned (.tuple #[v, .int .i64 0]) ∧ Sup w' b g c s q ∧ Ex b w w' ∧ Gr w w1 ∧ OK w1 v q w') ∨ (e = .returned (.tuple #[.slice none 0 0, .int .i64 4]) ∧ Sup w' b g c s p ∧ Ex b w w' ∧ NO)) := by
  have H := Lib.hid h
  have HK := Lib.hid hK
  have HST := Lib.hid hst
  have c1 := h.c1
  obtain ⟨hlt, hlg⟩ := h.lt
  have hmf : ∀ (fn : Fn) (first cap : Array Value) (w : World), (Instr.makeFunc fn first cap).run Try.prog w = .ok (.func fn first cap) w := fun _ _ _ _ => rfl
  have hb0 : ¬ b = w.heap.size := by omega
  have hb1 : ¬ b = w.heap.size + 1 := by omega
  have hb2 : ¬ b = w.heap.size + 1 + 1 := by omega
  have hb0' : ¬ w.heap.size = b := by omega
  have hb1' : ¬ w.heap.size + 1 = b := by omega
  have hb2' : ¬ w.heap.size + 1 + 1 = b := by omega
  clear h hK hst
  go_enter_defers Try.func35, Try.ntmps35
  go_wp2_with (first | (go_at_call 31; refine (made_any b g c s p _ (H.out.later (((Gr.refl w).alloc _).alloc _))).mono ?_; rintro e w1 ⟨rfl, rfl⟩) | (go_at_call 51; refine (takernew_any b _).mono ?_; rintro e w1 ⟨rfl, rfl⟩))
  have hgr : Gr w ((((w.alloc (Obj.cells #[Value.pointer (some ⟨b, 0, none⟩)] 24)).alloc (Obj.cells #[Value.int .i64 0] 40)).alloc (Obj.cells #[Value.int .i64 (p : Int)] 3)).alloc (Obj.cells #[Value.pointer (some ⟨b, 0, none⟩)] 24)) := (((Gr.new w _).alloc _).alloc _).alloc _
  have x0 : World.cell? ((((w.alloc (Obj.cells #[Value.pointer (some ⟨b, 0, none⟩)] 24)).alloc (Obj.cells #[Value.int .i64 0] 40)).alloc (Obj.cells #[Value.int .i64 (p : Int)] 3)).alloc (Obj.cells #[Value.pointer (some ⟨b, 0, none⟩)] 24)) ⟨w.heap.size, 0, none⟩ = some (.pointer (some ⟨b, 0, none⟩)) := (((Gr.refl _).alloc _).alloc _ |>.alloc _).keeps (cell_new w _ _)
  have x1 : World.cell? ((((w.alloc (Obj.cells #[Value.pointer (some ⟨b, 0, none⟩)] 24)).alloc (Obj.cells #[Value.int .i64 0] 40)).alloc (Obj.cells #[Value.int .i64 (p : Int)] 3)).alloc (Obj.cells #[Value.pointer (some ⟨b, 0, none⟩)] 24)) ⟨w.heap.size + 1, 0, none⟩ = some (.int .i64 0) := by
    have := cell_new (w.alloc (Obj.cells #[Value.pointer (some ⟨b, 0, none⟩)] 24)) (.int .i64 0) 40
    rw [World.size_alloc] at this
    exact ((Gr.refl _).alloc _ |>.alloc _).keeps this
  have x2 : World.cell? ((((w.alloc (Obj.cells #[Value.pointer (some ⟨b, 0, none⟩)] 24)).alloc (Obj.cells #[Value.int .i64 0] 40)).alloc (Obj.cells #[Value.int .i64 (p : Int)] 3)).alloc (Obj.cells #[Value.pointer (some ⟨b, 0, none⟩)] 24)) ⟨w.heap.size + 1 + 1, 0, none⟩ = some (.int .i64 (p : Int)) := by
    have := cell_new ((w.alloc (Obj.cells #[Value.pointer (some ⟨b, 0, none⟩)] 24)).alloc (Obj.cells #[Value.int .i64 0] 40)) (.int .i64 (p : Int)) 3
    rw [World.size_alloc, World.size_alloc] at this
    exact ((Gr.refl _).alloc _).keeps this
  have x3 : World.cell? ((((w.alloc (Obj.cells #[Value.pointer (some ⟨b, 0, none⟩)] 24)).alloc (Obj.cells #[Value.int .i64 0] 40)).alloc (Obj.cells #[Value.int .i64 (p : Int)] 3)).alloc (Obj.cells #[Value.pointer (some ⟨b, 0, none⟩)] 24)) ⟨w.heap.size + 1 + 1 + 1, 0, none⟩ = some (.pointer (some ⟨b, 0, none⟩)) := by
    have := cell_new (((w.alloc (Obj.cells #[Value.pointer (some ⟨b, 0, none⟩)] 24)).alloc (Obj.cells #[Value.int .i64 0] 40)).alloc (Obj.cells #[Value.int .i64 (p : Int)] 3)) (.pointer (some ⟨b, 0, none⟩)) 24
    rw [World.size_alloc, World.size_alloc, World.size_alloc] at this
    exact this
  have fE : World.frozen? ((((w.alloc (Obj.cells #[Value.pointer (some ⟨b, 0, none⟩)] 24)).alloc (Obj.cells #[Value.int .i64 0] 40)).alloc (Obj.cells #[Value.int .i64 (p : Int)] 3)).alloc (Obj.cells #[Value.pointer (some ⟨b, 0, none⟩)] 24)) ⟨w.heap.size + 1, 0, none⟩ = false := by
    simp [go_sem]
  generalize ((((w.alloc (Obj.cells #[Value.pointer (some ⟨b, 0, none⟩)] 24)).alloc (Obj.cells #[Value.int .i64 0] 40)).alloc (Obj.cells #[Value.int .i64 (p : Int)] 3)).alloc (Obj.cells #[Value.pointer (some ⟨b, 0, none⟩)] 24)) = W4 at hgr x0 x1 x2 x3 fE ⊢
  obtain ⟨B3, hB3⟩ : ∃ B3, B3 = w.heap.size := ⟨_, rfl⟩
  obtain ⟨E, hE⟩ : ∃ E, E = w.heap.size + 1 := ⟨_, rfl⟩
  obtain ⟨F, hF⟩ : ∃ F, F = w.heap.size + 1 + 1 := ⟨_, rfl⟩
  obtain ⟨T, hT⟩ : ∃ T, T = w.heap.size + 1 + 1 + 1 := ⟨_, rfl⟩
  rw [← hT] at x3 ⊢
  rw [← hF] at x2 ⊢
  rw [← hE] at x1 fE ⊢
  rw [← hB3] at x0 ⊢
  have n0 : B3 ≠ b := by omega
  have n1 : E ≠ b := by omega
  have n2 : F ≠ b := by omega
  have n3 : T ≠ b := by omega
  have hwE : w.heap.size ≤ E := by omega
  have hsep : g < w.heap.size ∧ E = w.heap.size + 1 ∧ F = w.heap.size + 1 + 1 ∧ B3 = w.heap.size := ⟨by omega, by omega, by omega, by omega⟩
  have HSEP := Lib.hid hsep
  clear hsep hB3 hE hF hT hb0 hb1 hb2 hb0' hb1' hb2'
  have hEW : E < W4.heap.size := lt_of_cell x1
  refine (HK.out W4 _ (H.out.later hgr) ⟨T, rfl, n3, x3⟩ hgr).mono ?_
  rintro e w2 (⟨v, q, rfl, hs2, hx2, hok⟩ | ⟨rfl, ⟨q, hs2⟩, hx2, hno⟩)
  · have y1 := hx2.keeps x1 n1
    have yf : w2.frozen? ⟨E, 0, none⟩ = false := (hx2.frozen (p := ⟨E, 0, none⟩) hEW n1).trans fE
    have y3 : (w2.setCell ⟨E, 0, none⟩ (.int .i64 0)).cell? ⟨E, 0, none⟩ = some (.int .i64 0) := World.cell?_setCell_same _ _ _ y1
    go_wp2_with fail
    refine leaves_cons (f := 53) (args := #[.pointer (some ⟨E, 0, none⟩), .pointer (some ⟨F, 0, none⟩), .pointer (some ⟨B3, 0, none⟩)]) (by simp) (by simp [go_sem]) ?_
    refine (back8_ok b E F B3 _ y3).mono ?_
    rintro e u' w3 ⟨rfl, rfl, rfl⟩
    refine ⟨.tuple #[v, .int .i64 0], ?_, .inl ⟨W4, v, q, rfl, ?_, ?_, hgr, HST.out _ _ _ _ _ _ hEW hok⟩⟩
    · simp [results, Try.results35, go_sem, y3]
    · exact hs2.other (by simpa using n1) (by have := HSEP.out; show E ≠ g; omega) _
    · exact ((Ex.of hgr b).trans hx2).setCell (.inr hwE) _
  · have y1 := hx2.keeps x1 n1
    have y0 := hx2.keeps x0 n0
    have y2 := hx2.keeps x2 n2
    have hFE : F ≠ E := by have := HSEP.out; omega
    have hBE : B3 ≠ E := by have := HSEP.out; omega
    have yf : w2.frozen? ⟨E, 0, none⟩ = false := (hx2.frozen (p := ⟨E, 0, none⟩) hEW n1).trans fE
    have hs3 : Sup (w2.setCell ⟨E, 0, none⟩ (.int .i64 4)) b g c s q := hs2.other (by simpa using n1) (by have := HSEP.out; show E ≠ g; omega) _
    have y3 : (w2.setCell ⟨E, 0, none⟩ (.int .i64 4)).cell? ⟨E, 0, none⟩ = some (.int .i64 4) := World.cell?_setCell_same _ _ _ y1
    have z2 : (w2.setCell ⟨E, 0, none⟩ (.int .i64 4)).cell? ⟨F, 0, none⟩ = some (.int .i64 (p : Int)) := by
      rw [World.cell?_setCell_other _ _ _ _ (by intro e; cases e; exact hFE rfl)]; exact y2
    have z0 : (w2.setCell ⟨E, 0, none⟩ (.int .i64 4)).cell? ⟨B3, 0, none⟩ = some (.pointer (some ⟨b, 0, none⟩)) := by
      rw [World.cell?_setCell_other _ _ _ _ (by intro e; cases e; exact hBE rfl)]; exact y0
    have z3 : ((w2.setCell ⟨E, 0, none⟩ (.int .i64 4)).setCell ⟨b, 1, none⟩ (.int .i64 (p : Int))).cell? ⟨E, 0, none⟩ = some (.int .i64 4) := by
      rw [World.cell?_setCell_other _ _ _ _ (by intro e; cases e)]; exact y3
    go_wp2_with fail
    refine leaves_cons (f := 53) (args := #[.pointer (some ⟨E, 0, none⟩), .pointer (some ⟨F, 0, none⟩), .pointer (some ⟨B3, 0, none⟩)]) (by simp) (by simp [go_sem]) ?_
    refine (back8_err b E F B3 p 4 _ y3 (by decide) z2 z0 hs3.c1 (hs3.fz 1)).mono ?_
    rintro e u' w3 ⟨rfl, rfl, rfl⟩
    refine ⟨.tuple #[.slice none 0 0, .int .i64 4], ?_, .inr ⟨rfl, ?_, ?_, hno⟩⟩
    · simp [results, Try.results35, go_sem, z3]
    · exact hs3.set rfl H.out.place
    · exact (((Ex.of hgr b).trans hx2).setCell (.inr hwE) _).setCell (.inl rfl) _

set_option maxRecDepth 100000 in
set_option maxHeartbeats 2000000 in
theorem drawBounded_any (b g c : Nat) (s : ByteArray) (p : Nat) (caps : Array Value) (OK : World → Value → Nat → World → Prop) (NO : Prop) (w : World) (h : Sup w b g c s p)
    (hK : ∀ (w1 : World) (t : Value), Sup w1 b g c s p → IsTk w1 t b → Gr w w1 → Calls Try.prog 39 (#[t] ++ caps) w1 (fun e w2 =>
      (∃ v q, e = .returned (.tuple #[v, .int .i64 0]) ∧ Sup w2 b g c s q ∧ Ex b w1 w2 ∧ OK w1 v q w2) ∨ (e = .returned (.tuple #[.slice none 0 0, .int .i64 4]) ∧ (∃ q, Sup w2 b g c s q) ∧ Ex b w1 w2 ∧ NO)))
    (hst : ∀ w1 v q w2 E u, E < w1.heap.size → OK w1 v q w2 → OK w1 v q (w2.setCell ⟨E, 0, none⟩ u)) :
    Calls Try.prog 38 #[.pointer (some ⟨b, 0, none⟩), .bool true, .func (.func 39) #[] caps] w (fun e w' =>
      (∃ w1 v q, e = .returned (.tuple #[v, .int .i64 0]) ∧ Sup w' b g c s q ∧ Ex b w w' ∧ Gr w w1 ∧ OK w1 v q w') ∨ (e = .returned (.tuple #[.slice none 0 0, .int .i64 4]) ∧ Sup w' b g c s p ∧ Ex b w w' ∧ NO)) := by
  have H := Lib.hid h
  have HK := Lib.hid hK
  have HST := Lib.hid hst
  have c1 := h.c1
  obtain ⟨hlt, hlg⟩ := h.lt
  have hmf : ∀ (fn : Fn) (first cap : Array Value) (w : World), (Instr.makeFunc fn first cap).run Try.prog w = .ok (.func fn first cap) w := fun _ _ _ _ => rfl
  have hb0 : ¬ b = w.heap.size := by omega
  have hb1 : ¬ b = w.heap.size + 1 := by omega
  have hb2 : ¬ b = w.heap.size + 1 + 1 := by omega
  have hb0' : ¬ w.heap.size = b := by omega
  have hb1' : ¬ w.heap.size + 1 = b := by omega
  have hb2' : ¬ w.heap.size + 1 + 1 = b := by omega
  clear h hK hst
  go_enter_defers Try.func38, Try.ntmps38
  go_wp2_with (first | (go_at_call 31; refine (made_any b g c s p _ (H.out.later (((Gr.refl w).alloc _).alloc _))).mono ?_; rintro e w1 ⟨rfl, rfl⟩) | (go_at_call 51; refine (takernew_any b _).mono ?_; rintro e w1 ⟨rfl, rfl⟩))
  have hgr : Gr w ((((w.alloc (Obj.cells #[Value.pointer (some ⟨b, 0, none⟩)] 24)).alloc (Obj.cells #[Value.int .i64 0] 40)).alloc (Obj.cells #[Value.int .i64 (p : Int)] 3)).alloc (Obj.cells #[Value.pointer (some ⟨b, 0, none⟩)] 24)) := (((Gr.new w _).alloc _).alloc _).alloc _
  have x0 : World.cell? ((((w.alloc (Obj.cells #[Value.pointer (some ⟨b, 0, none⟩)] 24)).alloc (Obj.cells #[Value.int .i64 0] 40)).alloc (Obj.cells #[Value.int .i64 (p : Int)] 3)).alloc (Obj.cells #[Value.pointer (some ⟨b, 0, none⟩)] 24)) ⟨w.heap.size, 0, none⟩ = some (.pointer (some ⟨b, 0, none⟩)) := (((Gr.refl _).alloc _).alloc _ |>.alloc _).keeps (cell_new w _ _)
  have x1 : World.cell? ((((w.alloc (Obj.cells #[Value.pointer (some ⟨b, 0, none⟩)] 24)).alloc (Obj.cells #[Value.int .i64 0] 40)).alloc (Obj.cells #[Value.int .i64 (p : Int)] 3)).alloc (Obj.cells #[Value.pointer (some ⟨b, 0, none⟩)] 24)) ⟨w.heap.size + 1, 0, none⟩ = some (.int .i64 0) := by
    have := cell_new (w.alloc (Obj.cells #[Value.pointer (some ⟨b, 0, none⟩)] 24)) (.int .i64 0) 40
    rw [World.size_alloc] at this
    exact ((Gr.refl _).alloc _ |>.alloc _).keeps this
  have x2 : World.cell? ((((w.alloc (Obj.cells #[Value.pointer (some ⟨b, 0, none⟩)] 24)).alloc (Obj.cells #[Value.int .i64 0] 40)).alloc (Obj.cells #[Value.int .i64 (p : Int)] 3)).alloc (Obj.cells #[Value.pointer (some ⟨b, 0, none⟩)] 24)) ⟨w.heap.size + 1 + 1, 0, none⟩ = some (.int .i64 (p : Int)) := by
    have := cell_new ((w.alloc (Obj.cells #[Value.pointer (some ⟨b, 0, none⟩)] 24)).alloc (Obj.cells #[Value.int .i64 0] 40)) (.int .i64 (p : Int)) 3
    rw [World.size_alloc, World.size_alloc] at this
    exact ((Gr.refl _).alloc _).keeps this
  have x3 : World.cell? ((((w.alloc (Obj.cells #[Value.pointer (some ⟨b, 0, none⟩)] 24)).alloc (Obj.cells #[Value.int .i64 0] 40)).alloc (Obj.cells #[Value.int .i64 (p : Int)] 3)).alloc (Obj.cells #[Value.pointer (some ⟨b, 0, none⟩)] 24)) ⟨w.heap.size + 1 + 1 + 1, 0, none⟩ = some (.pointer (some ⟨b, 0, none⟩)) := by
    have := cell_new (((w.alloc (Obj.cells #[Value.pointer (some ⟨b, 0, none⟩)] 24)).alloc (Obj.cells #[Value.int .i64 0] 40)).alloc (Obj.cells #[Value.int .i64 (p : Int)] 3)) (.pointer (some ⟨b, 0, none⟩)) 24
    rw [World.size_alloc, World.size_alloc, World.size_alloc] at this
    exact this
  have fE : World.frozen? ((((w.alloc (Obj.cells #[Value.pointer (some ⟨b, 0, none⟩)] 24)).alloc (Obj.cells #[Value.int .i64 0] 40)).alloc (Obj.cells #[Value.int .i64 (p : Int)] 3)).alloc (Obj.cells #[Value.pointer (some ⟨b, 0, none⟩)] 24)) ⟨w.heap.size + 1, 0, none⟩ = false := by
    simp [go_sem]
  generalize ((((w.alloc (Obj.cells #[Value.pointer (some ⟨b, 0, none⟩)] 24)).alloc (Obj.cells #[Value.int .i64 0] 40)).alloc (Obj.cells #[Value.int .i64 (p : Int)] 3)).alloc (Obj.cells #[Value.pointer (some ⟨b, 0, none⟩)] 24)) = W4 at hgr x0 x1 x2 x3 fE ⊢
  obtain ⟨B3, hB3⟩ : ∃ B3, B3 = w.heap.size := ⟨_, rfl⟩
  obtain ⟨E, hE⟩ : ∃ E, E = w.heap.size + 1 := ⟨_, rfl⟩
  obtain ⟨F, hF⟩ : ∃ F, F = w.heap.size + 1 + 1 := ⟨_, rfl⟩
  obtain ⟨T, hT⟩ : ∃ T, T = w.heap.size + 1 + 1 + 1 := ⟨_, rfl⟩
  rw [← hT] at x3 ⊢
  rw [← hF] at x2 ⊢
  rw [← hE] at x1 fE ⊢
  rw [← hB3] at x0 ⊢
  have n0 : B3 ≠ b := by omega
  have n1 : E ≠ b := by omega
  have n2 : F ≠ b := by omega
  have n3 : T ≠ b := by omega
  have hwE : w.heap.size ≤ E := by omega
  have hsep : g < w.heap.size ∧ E = w.heap.size + 1 ∧ F = w.heap.size + 1 + 1 ∧ B3 = w.heap.size := ⟨by omega, by omega, by omega, by omega⟩
  have HSEP := Lib.hid hsep
  clear hsep hB3 hE hF hT hb0 hb1 hb2 hb0' hb1' hb2'
  have hEW : E < W4.heap.size := lt_of_cell x1
  refine (HK.out W4 _ (H.out.later hgr) ⟨T, rfl, n3, x3⟩ hgr).mono ?_
  rintro e w2 (⟨v, q, rfl, hs2, hx2, hok⟩ | ⟨rfl, ⟨q, hs2⟩, hx2, hno⟩)
  · have y1 := hx2.keeps x1 n1
    have yf : w2.frozen? ⟨E, 0, none⟩ = false := (hx2.frozen (p := ⟨E, 0, none⟩) hEW n1).trans fE
    have y3 : (w2.setCell ⟨E, 0, none⟩ (.int .i64 0)).cell? ⟨E, 0, none⟩ = some (.int .i64 0) := World.cell?_setCell_same _ _ _ y1
    go_wp2_with fail
    refine leaves_cons (f := 54) (args := #[.pointer (some ⟨E, 0, none⟩), .pointer (some ⟨F, 0, none⟩), .pointer (some ⟨B3, 0, none⟩)]) (by simp) (by simp [go_sem]) ?_
    refine (backo_ok b E F B3 _ y3).mono ?_
    rintro e u' w3 ⟨rfl, rfl, rfl⟩
    refine ⟨.tuple #[v, .int .i64 0], ?_, .inl ⟨W4, v, q, rfl, ?_, ?_, hgr, HST.out _ _ _ _ _ _ hEW hok⟩⟩
    · simp [results, Try.results38, go_sem, y3]
    · exact hs2.other (by simpa using n1) (by have := HSEP.out; show E ≠ g; omega) _
    · exact ((Ex.of hgr b).trans hx2).setCell (.inr hwE) _
  · have y1 := hx2.keeps x1 n1
    have y0 := hx2.keeps x0 n0
    have y2 := hx2.keeps x2 n2
    have hFE : F ≠ E := by have := HSEP.out; omega
    have hBE : B3 ≠ E := by have := HSEP.out; omega
    have yf : w2.frozen? ⟨E, 0, none⟩ = false := (hx2.frozen (p := ⟨E, 0, none⟩) hEW n1).trans fE
    have hs3 : Sup (w2.setCell ⟨E, 0, none⟩ (.int .i64 4)) b g c s q := hs2.other (by simpa using n1) (by have := HSEP.out; show E ≠ g; omega) _
    have y3 : (w2.setCell ⟨E, 0, none⟩ (.int .i64 4)).cell? ⟨E, 0, none⟩ = some (.int .i64 4) := World.cell?_setCell_same _ _ _ y1
    have z2 : (w2.setCell ⟨E, 0, none⟩ (.int .i64 4)).cell? ⟨F, 0, none⟩ = some (.int .i64 (p : Int)) := by
      rw [World.cell?_setCell_other _ _ _ _ (by intro e; cases e; exact hFE rfl)]; exact y2
    have z0 : (w2.setCell ⟨E, 0, none⟩ (.int .i64 4)).cell? ⟨B3, 0, none⟩ = some (.pointer (some ⟨b, 0, none⟩)) := by
      rw [World.cell?_setCell_other _ _ _ _ (by intro e; cases e; exact hBE rfl)]; exact y0
    have z3 : ((w2.setCell ⟨E, 0, none⟩ (.int .i64 4)).setCell ⟨b, 1, none⟩ (.int .i64 (p : Int))).cell? ⟨E, 0, none⟩ = some (.int .i64 4) := by
      rw [World.cell?_setCell_other _ _ _ _ (by intro e; cases e)]; exact y3
    go_wp2_with fail
    refine leaves_cons (f := 54) (args := #[.pointer (some ⟨E, 0, none⟩), .pointer (some ⟨F, 0, none⟩), .pointer (some ⟨B3, 0, none⟩)]) (by simp) (by simp [go_sem]) ?_
    refine (backo_err b E F B3 p 4 _ y3 (by decide) z2 z0 hs3.c1 (hs3.fz 1)).mono ?_
    rintro e u' w3 ⟨rfl, rfl, rfl⟩
    refine ⟨.tuple #[.slice none 0 0, .int .i64 4], ?_, .inr ⟨rfl, ?_, ?_, hno⟩⟩
    · simp [results, Try.results38, go_sem, z3]
    · exact hs3.set rfl H.out.place
    · exact (((Ex.of hgr b).trans hx2).setCell (.inr hwE) _).setCell (.inl rfl) _
end Go.Proofs.Ytmankcmmlcfbaaa
