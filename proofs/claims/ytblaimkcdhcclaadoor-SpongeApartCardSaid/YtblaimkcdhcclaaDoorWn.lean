/- What the program's functions are to answer; shown; the law SpongePermutes. -/
import Derived.Test.YtblaimkcdhcclaaDoorWl
import Derived.Test.YtblaimkcdhcclaaDoorWm
import Derived.Test.YtblaimkcdhcclaaDoorWt
namespace Oz
def permA (s : St) (n : Int) : St := if 1 ≤ n ∧ n ≤ 12 then perm s n.toNat else ⟨0, 0, 0, 0, 0⟩
def permE (n : Int) : Int := if 1 ≤ n ∧ n ≤ 12 then 0 else 2
def known : St := ⟨0x000964b00000004b, 0x0000000096000213, 0x53ffffffffffff90, 0x12e580000000004b, 0⟩
theorem known_is : perm ⟨0, 0, 0, 0, 0⟩ 1 = known := by
  have h : (perm ⟨0, 0, 0, 0, 0⟩ 1).a = known.a ∧ (perm ⟨0, 0, 0, 0, 0⟩ 1).b = known.b ∧ (perm ⟨0, 0, 0, 0, 0⟩ 1).c = known.c ∧ (perm ⟨0, 0, 0, 0, 0⟩ 1).d = known.d ∧ (perm ⟨0, 0, 0, 0, 0⟩ 1).e = known.e := by decide +kernel
  exact St.eq h.1 h.2.1 h.2.2.1 h.2.2.2.1 h.2.2.2.2
end Oz
namespace Go.Proofs.YtblaimkcdhcclaaDoor
open Go.RowKit Oz
set_option linter.unusedVariables false
set_option linter.unusedSimpArgs false
def PermOK : Prop := ∀ (s : St) (n : Int) (w : World), Tab w → Calls Tryd.prog 7 #[stv s, .int .i64 n] w (fun y w' => y = .returned (.tuple #[stv (permA s n), .int .i64 (permE n)]) ∧ Gr w w')
def StrmOK : Prop := ∀ (s : ByteArray) (n : Int) (w : World), Tab w → s.size ≤ 200000 → ¬ (20000 < n ∧ n ≤ 1048576) → Calls Tryd.prog 11 #[.string s, .int .i64 n] w (fun y w' => y = .returned (.tuple #[.string (strmS s n), .int .i64 (strmE n)]) ∧ Gr w w')
def DigOK : Prop := ∀ (s : ByteArray) (w : World), Tab w → s.size ≤ 200000 → Calls Tryd.prog 13 #[.string s] w (fun y w' => y = .returned (.string (spS s 0 32)) ∧ Gr w w')
def ShrtOK : Prop := ∀ (s : ByteArray) (w : World), Tab w → s.size ≤ 200000 → Calls Tryd.prog 15 #[.string s] w (fun y w' => y = .returned (.string (spS s 0 8)) ∧ Gr w w')
def ListOK : Prop := ∀ (d n : Nat) (v : Value) (S : Nat → ByteArray) (w : World), Tab w → d < 256 → HasStr w v n S → wsum S n ≤ 40000 → Calls Tryd.prog 17 #[.int .u8 (d : Nat), v] w (fun y w' => y = .returned (.string (spS (lstB d n S) 0 32)) ∧ Gr w w')
theorem rPerm_ok (s : St) (n : Int) (w : World) : Calls Tryd.prog 8 #[stv s, .int .i64 n] w (fun y w' => y = .returned (.tuple #[stv (permA s n), .int .i64 (permE n)]) ∧ Gr w w') := rPermute_any s n w
set_option maxRecDepth 100000 in
set_option maxHeartbeats 4000000 in
theorem shown_any (hP : PermOK) (hS : StrmOK) (hD : DigOK) (hT : ShrtOK) (w : World) (htab : Tab w) : Calls Tryd.prog 9 #[] w (Truth w) := by
  have HTB := Lib.hid htab
  clear htab
  have HP1 := Lib.hid (fun w (htw : Tab w) => by
    have := hP ⟨0, 0, 0, 0, 0⟩ 1 w htw
    rw [show permA ⟨0, 0, 0, 0, 0⟩ 1 = known from known_is, show permE 1 = 0 from rfl, stv0] at this
    exact this)
  have HP2 := Lib.hid (fun w (htw : Tab w) => by
    have := hP ⟨0, 0, 0, 0, 0⟩ 13 w htw
    rw [show permA ⟨0, 0, 0, 0, 0⟩ 13 = ⟨0, 0, 0, 0, 0⟩ from rfl, show permE 13 = 2 from rfl, stv0] at this
    exact this)
  have HS := Lib.hid (fun w (htw : Tab w) => by
    have := hS ⟨#[115, 101, 101, 100]⟩ 0 w htw (by decide) (by omega)
    rw [show strmS ⟨#[115, 101, 101, 100]⟩ 0 = ⟨#[]⟩ from rfl, show strmE 0 = 0 from rfl] at this
    exact this)
  obtain ⟨d, hd⟩ : ∃ d, d = spS ⟨#[]⟩ 0 32 := ⟨_, rfl⟩
  obtain ⟨t, ht⟩ : ∃ t, t = spS ⟨#[]⟩ 0 8 := ⟨_, rfl⟩
  have hds : d.size = 32 := by rw [hd]; exact spS_size _ _ _
  have hts : t.size = 8 := by rw [ht]; exact spS_size _ _ _
  have HD := Lib.hid (fun w (htw : Tab w) => by have := hD ⟨#[]⟩ w htw (by decide); rw [← hd] at this; exact this)
  have HT := Lib.hid (fun w (htw : Tab w) => by have := hT ⟨#[]⟩ w htw (by decide); rw [← ht] at this; exact this)
  clear hP hS hD hT hd ht
  have hk : stv known = .agg #[.int .u64 2643981867417675, .int .u64 2516582931, .int .u64 6052837899185946512, .int .u64 1361635199837798475, .int .u64 0] := by
    unfold stv
    rw [show nv known.a = 2643981867417675 from by decide, show nv known.b = 2516582931 from by decide, show nv known.c = 6052837899185946512 from by decide, show nv known.d = 1361635199837798475 from by decide, show nv known.e = 0 from by decide]
  have he := fun w => arr_eql w known known
  rw [eq5_refl, hk] at he
  rw [hk] at HP1
  clear hk
  have HS5 := Lib.hid (fun (w1 : World) => show ArrS (w1.alloc (.cells #[.int .u64 2643981867417675, .int .u64 2516582931, .int .u64 6052837899185946512, .int .u64 1361635199837798475, .int .u64 0] 23)) w1.heap.size known from by
    have h := Arr.new (W := w1) (g := w1.heap.size) (a := known.a) (b := known.b) (c := known.c) (d := known.d) (e := known.e) (T := 23) rfl
    rw [show nv known.a = 2643981867417675 from by decide, show nv known.b = 2516582931 from by decide, show nv known.c = 6052837899185946512 from by decide, show nv known.d = 1361635199837798475 from by decide, show nv known.e = 0 from by decide] at h
    exact h)
  go_enter Tryd.func9, Tryd.ntmps9
  go_wp2_with (first
    | (go_at_call 7; with_reducible refine (HP1.out _ HTB.out).mono ?_; rintro y w1 ⟨rfl, hg1⟩; (have HX1 := Lib.hid (HS5.out w1)); (have HG1 := Lib.hid (hg1.alloc (.cells #[.int .u64 2643981867417675, .int .u64 2516582931, .int .u64 6052837899185946512, .int .u64 1361635199837798475, .int .u64 0] 23))); clear hg1)
    | (go_at_call 7; with_reducible refine (HP2.out _ (HTB.out.later HG1.out)).mono ?_; rintro y w2 ⟨rfl, hg2⟩; (have HX2 := Lib.hid ((HX1.out.later hg2).later (Gr.new w2 (.cells #[.int .u64 0, .int .u64 0, .int .u64 0, .int .u64 0, .int .u64 0] 23)))); (have HG2 := Lib.hid ((Gr.trans HG1.out hg2).alloc (.cells #[.int .u64 0, .int .u64 0, .int .u64 0, .int .u64 0, .int .u64 0] 23))); clear hg2)
    | (go_at_call 11; refine (HS.out _ (HTB.out.later HG2.out)).mono ?_; rintro y w3 ⟨rfl, hg3⟩; (have hx3 := HX2.out.later hg3); (have k0 := hx3.c0); (have k1 := hx3.c1); (have k2 := hx3.c2); (have k3 := hx3.c3); (have k4 := hx3.c4); rw [show nv known.a = 2643981867417675 from by decide] at k0; rw [show nv known.b = 2516582931 from by decide] at k1; rw [show nv known.c = 6052837899185946512 from by decide] at k2; rw [show nv known.d = 1361635199837798475 from by decide] at k3; rw [show nv known.e = 0 from by decide] at k4; (have HG3 := Lib.hid (Gr.trans HG2.out hg3)); clear hg3 hx3)
    | (go_at_call 13; refine (HD.out _ (HTB.out.later HG3.out)).mono ?_; rintro y w4 ⟨rfl, hg4⟩; (have HG4 := Lib.hid (Gr.trans HG3.out hg4)); clear hg4)
    | (go_at_call 15; refine (HT.out _ (HTB.out.later HG4.out)).mono ?_; rintro y w5 ⟨rfl, hg5⟩))
  go_ret
  exact ⟨rfl, Gr.trans HG4.out hg5⟩
set_option maxRecDepth 100000 in
set_option maxHeartbeats 4000000 in
theorem permutes_law (hP : PermOK) (hsh : ∀ w, Tab w → Calls Tryd.prog 9 #[] w (Truth w)) (s : St) (n : Int) (w : World) (htab : Tab w) : Calls Tryd.prog 3 #[stv s, .int .i64 n] w (Truth w) := by
  obtain ⟨p, hp⟩ : ∃ p, p = permA s n := ⟨_, rfl⟩
  obtain ⟨k, hk⟩ : ∃ k, k = permE n := ⟨_, rfl⟩
  have HTB := Lib.hid htab
  clear htab
  have HP := Lib.hid (fun w (htw : Tab w) => by have := hP s n w htw; rw [← hp, ← hk] at this; exact this)
  have HQ := Lib.hid (fun w => by have := rPerm_ok s n w; rw [← hp, ← hk] at this; exact this)
  have HSH := Lib.hid hsh
  have he := fun w => arr_eql w p p
  rw [eq5_refl] at he
  clear hP hsh hp hk
  have HX0 := Lib.hid (show ArrS (w.alloc (.cells #[.int .u64 (nv s.a), .int .u64 (nv s.b), .int .u64 (nv s.c), .int .u64 (nv s.d), .int .u64 (nv s.e)] 23)) w.heap.size s from Arr.new rfl)
  have HG0 := Lib.hid (Gr.new w (.cells #[.int .u64 (nv s.a), .int .u64 (nv s.b), .int .u64 (nv s.c), .int .u64 (nv s.d), .int .u64 (nv s.e)] 23))
  unfold stv at HP HQ he ⊢
  go_enter Tryd.func3, Tryd.ntmps3
  go_wp2_with (first
    | (go_at_call 7; refine (HP.out _ (HTB.out.later HG0.out)).mono ?_; rintro y w1 ⟨rfl, hg1⟩; (have HX1 := Lib.hid ((HX0.out.later hg1).later (Gr.new w1 (.cells #[.int .u64 (nv p.a), .int .u64 (nv p.b), .int .u64 (nv p.c), .int .u64 (nv p.d), .int .u64 (nv p.e)] 23)))); (have HY1 := Lib.hid (show ArrS (w1.alloc (.cells #[.int .u64 (nv p.a), .int .u64 (nv p.b), .int .u64 (nv p.c), .int .u64 (nv p.d), .int .u64 (nv p.e)] 23)) w1.heap.size p from Arr.new rfl)); (have HG1 := Lib.hid ((Gr.trans HG0.out hg1).alloc (.cells #[.int .u64 (nv p.a), .int .u64 (nv p.b), .int .u64 (nv p.c), .int .u64 (nv p.d), .int .u64 (nv p.e)] 23))); (have c0 := HX1.out.c0); (have c1 := HX1.out.c1); (have c2 := HX1.out.c2); (have c3 := HX1.out.c3); (have c4 := HX1.out.c4); clear hg1)
    | (go_at_call 8; refine (HQ.out _).mono ?_; rintro y w2 ⟨rfl, hg2⟩; clear c0 c1 c2 c3 c4; (have HY2 := Lib.hid ((HY1.out.later hg2).later (Gr.new w2 (.cells #[.int .u64 (nv p.a), .int .u64 (nv p.b), .int .u64 (nv p.c), .int .u64 (nv p.d), .int .u64 (nv p.e)] 23)))); (have HZ2 := Lib.hid (show ArrS (w2.alloc (.cells #[.int .u64 (nv p.a), .int .u64 (nv p.b), .int .u64 (nv p.c), .int .u64 (nv p.d), .int .u64 (nv p.e)] 23)) w2.heap.size p from Arr.new rfl)); (have HG2 := Lib.hid ((Gr.trans HG1.out hg2).alloc (.cells #[.int .u64 (nv p.a), .int .u64 (nv p.b), .int .u64 (nv p.c), .int .u64 (nv p.d), .int .u64 (nv p.e)] 23))); (have c0 := HY2.out.c0); (have c1 := HY2.out.c1); (have c2 := HY2.out.c2); (have c3 := HY2.out.c3); (have c4 := HY2.out.c4); clear hg2)
    | (go_at_call 9; refine (HSH.out _ (HTB.out.later HG2.out)).mono ?_; rintro y w3 ⟨rfl, hg3⟩))
  go_ret
  exact ⟨rfl, Gr.trans HG2.out hg3⟩
end Go.Proofs.YtblaimkcdhcclaaDoor
