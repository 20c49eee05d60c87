/- A list of numbers, taken by the program: uint32. -/
import Derived.Test.YtmankcmmlcfbaaaVe
import Derived.Test.YtmankcmmlcfbaaaLw
namespace Go.Proofs.Ytmankcmmlcfbaaa
open Go.RowKit Ov
set_option linter.unusedVariables false

theorem conv32_any (v : Nat) (w : World) (hv : v < 4294967296) : Calls Try.prog 46 #[.int .u64 (v : Nat)] w (fun e w' => e = .returned (.int .u32 (v : Nat)) ∧ w' = w) := by
  go_enter Try.func46, Try.ntmps46
  go_wp2_with fail
  go_ret
  exact ⟨by first | rfl | (congr 2; omega), rfl⟩
/-- What a function returns that takes a list of numbers. -/
def NumLwP (b g c : Nat) (s : ByteArray) (lim p n : Nat) (cv : Nat → Int) (w : World) (e : Ending) (w' : World) : Prop :=
  (∃ l q a m k, many s lim p n = some (l, q) ∧ e = .returned (.tuple #[.slice a m k, .int .i64 0]) ∧ Lw.HasQ w' (.slice a m k) (l.map cv) ∧ (∀ x, a = some x → w.heap.size ≤ x.block) ∧ Sup w' b g c s q ∧ Ex b w w') ∨
  (many s lim p n = none ∧ e = .returned (.tuple #[.slice none 0 0, .int .i64 4]) ∧ (∃ q, Sup w' b g c s q) ∧ Ex b w w')

set_option maxRecDepth 100000 in
set_option maxHeartbeats 2000000 in
theorem numLw_any (b g c : Nat) (t : Value) (s : ByteArray) (lim p n : Nat)  (w : World) (h : Sup w b g c s p) (ht : IsTk w t b) (hlim : 1 ≤ lim ∧ lim < 4294967296) (hn : n ≤ 4096)  :
    Calls Try.prog 45 #[t, .int .i64 (n : Nat), .int .u64 (lim : Nat), .func (.func 46) #[] #[]] w (NumLwP b g c s lim p n (fun (v : Nat) => (v : Int)) w) := by
  have H := Lib.hid h
  have HT := Lib.hid ht
  have HLT := Lib.hid h.lt
  have HLIM := Lib.hid hlim
  have hmk := Lw.mk_row n (n : Int) rfl (by omega)
  skip
  clear h ht hlim
  go_enter Try.func45, Try.ntmps45
  go_wp2_with fail
  clear hmk
  go_loopw [18] (fun x wr => ∃ (i q : Nat) (l : List Nat), x = .int .i64 (i : Nat) ∧ i ≤ n ∧ many s lim p i = some (l, q) ∧ Lw.Row wr w.heap.size (l.map (fun (v : Nat) => (v : Int)) ++ List.replicate (n - i) 0) ∧ w.heap.size < wr.heap.size ∧ Sup wr b g c s q ∧ Ex b w wr) (fun x _ => n - (intOf x).toNat)
  case atStart =>
    exact ⟨0, p, [], rfl, by omega, rfl, by simpa using Lw.Row.zeros w n, by simp, H.out.later (Gr.new w _), (Ex.refl b w).alloc _⟩
  case round =>
    obtain ⟨i, q, l, rfl, hi, hm, hrow, hsz, hs, hx⟩ := hrel
    have hlen := (many_some H.out.place hm).1
    have HM := Lib.hid hm
    have HROW := Lib.hid hrow
    have HS := Lib.hid hs
    have HX := Lib.hid hx
    have HLEN := Lib.hid hlen
    have HSZ := Lib.hid hsz
    clear hm hrow hs hx hlen hsz
    have hcase : i < n ∨ ¬ i < n := Classical.em _
    rcases hcase with hc | hc
    · have hci : (i : Int) < (n : Int) := by omega
      have HB := Lib.hid (below_any b g c t s lim q wr HS.out (HT.out.ex HX.out) ⟨HLIM.out.1, by have := HLIM.out.2; omega⟩)
      have hbc : (∃ v q', bel s lim q = some (v, q')) ∨ bel s lim q = none := by
        cases hh : bel s lim q with
        | none => exact .inr rfl
        | some x => exact .inl ⟨x.1, x.2, rfl⟩
      rcases hbc with ⟨v, q', hbel⟩ | hbel
      · have HBEL := Lib.hid hbel
        have hvl := (bel_some hbel).1
        have HVL := Lib.hid hvl
        have HV := Lib.hid (fun w => conv32_any v w (by have := HLIM.out.2; omega))
        clear hbel hvl
        have hfr : ∀ j, (wr.frozen? ⟨w.heap.size, j, none⟩) = false := fun j => HROW.out.frozen j
        go_wp2_with (first | (go_at_call 34; refine HB.out.mono ?_; rintro e w2 (⟨v2, q2, hb2, rfl, hs2, hx2⟩ | ⟨h0, _⟩); rotate_left; (exfalso; have := HBEL.out; rw [h0] at this; cases this); (have hb3 := hb2.symm.trans HBEL.out; cases hb3; clear hb2); (have HS2 := Lib.hid hs2; have HX2 := Lib.hid hx2); (have HR2 := Lib.hid (HROW.out.same (hx2.block _ HSZ.out (by have := HLT.out.1; omega)))); (have hfz := HR2.out.frozen i; have hcl := HR2.out.cell (j := i) (by rw [List.length_append, List.length_map, HLEN.out, List.length_replicate]; omega)); clear hs2 hx2) | (go_at_call 46; refine (HV.out _).mono ?_; rintro e w3 ⟨rfl, rfl⟩))
        go_roundw
        case rel =>
          refine ⟨i + 1, q', l ++ [v], by simp, by omega, many_step HM.out HBEL.out, ?_, by have := HX2.out.size; have := HSZ.out; simp; omega, HS2.out.other (by have := HLT.out.1; simp; omega) (by have := HLT.out.2; simp; omega) _, (HX.out.trans HX2.out).setCell (.inr (Nat.le_refl _)) _⟩
          have hr := HR2.out.setAt (k := i) (x := (fun (v : Nat) => (v : Int)) v) (by rw [List.length_append, List.length_map, HLEN.out, List.length_replicate]; omega) (by have := HLIM.out.2; have := HVL.out; dsimp only; omega)
          rw [show n - i = n - (i + 1) + 1 from by omega] at hr
          have e := Lw.set_next (l.map (fun (v : Nat) => (v : Int))) (n - (i + 1)) ((fun (v : Nat) => (v : Int)) v)
          rw [List.length_map, HLEN.out] at e
          rw [e] at hr
          rw [List.map_append]
          exact hr
        case measure => simp [intOf]; omega
      · have HBEL := Lib.hid hbel
        clear hbel
        go_wp2_with (first | (go_at_call 34; refine HB.out.mono ?_; rintro e w2 (⟨v2, q2, hb2, _⟩ | ⟨h0, rfl, hs2, hx2⟩); (exfalso; have := HBEL.out; rw [hb2] at this; cases this)))
        go_ret2
        exact Or.inr ⟨many_none (show i + 1 ≤ n from by omega) (many_stop HM.out HBEL.out), rfl, hs2, HX.out.trans hx2⟩
    · obtain rfl : n = i := by omega
      go_wp2_with fail
      go_ret2
      have hr := HROW.out
      rw [Nat.sub_self, List.replicate_zero, List.append_nil] at hr
      have hq := hr.hasQ (cap := n) (by rw [List.length_map, HLEN.out]; omega) (by omega)
      rw [List.length_map, HLEN.out] at hq
      exact Or.inl ⟨l, q, _, _, _, HM.out, rfl, hq, fun x hx => by cases hx; exact Nat.le_refl _, HS.out, HX.out⟩
end Go.Proofs.Ytmankcmmlcfbaaa
