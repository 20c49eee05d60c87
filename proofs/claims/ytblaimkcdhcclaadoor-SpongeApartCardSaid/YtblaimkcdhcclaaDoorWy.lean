/- result, of the program; Digest, Short, Stream. -/
import Derived.Test.YtblaimkcdhcclaaDoorWs
import Derived.Laws.MakeOwn
namespace Go.Proofs.YtblaimkcdhcclaaDoor
open Go.RowKit Go.Shelf Oz
set_option linter.unusedVariables false
set_option linter.unusedSimpArgs false
attribute [local go_sem] Oper.semAt_some
theorem OwnB.make (c : Nat) (hc : c ≤ 1000000) : ∃ row : Array Value, ∀ w : World, (Instr.makeSlice 41 (.int .i64 0) (.int .i64 (c : Nat))).run Tryd.prog w = .ok (.slice (some ⟨w.heap.size, 0, none⟩) 0 c) (w.alloc (.cells row 5)) ∧
    OwnB (w.alloc (.cells row 5)) w.heap.size (.slice (some ⟨w.heap.size, 0, none⟩) 0 c) [] := by
  obtain ⟨i, hi, hz, h1, hby⟩ := info_u8
  refine ⟨madeCells (Value.int .u8 0).cells (c * i.size), fun w => ⟨?_, ?_⟩⟩
  · have hr := run_make (P := Tryd.prog) w 41 5 i (.int .u8 0) Tryd.underlying41 hi hz .i64 .i64 0 c (Int.le_refl _) (by omega) (by rw [hby]; omega) (by omega)
    simp only [Int.toNat_zero, Int.toNat_natCast] at hr
    exact hr
  · rw [h1]
    exact OwnB.of_owns (n := 0) (World.ownsRow_made w _ c (Nat.le_refl _) (by unfold maxLen; omega) (size_madeCells _ _))
theorem gr_from {B : Nat} {W W' : World} (h : Gr W W') : KeepsFrom B W W' := ⟨h.size, fun k o _ hk _ => (h.block k (Array.getElem?_eq_some_iff.1 hk).1).trans hk⟩
theorem from_put5 (B : Nat) (w : World) (g : Nat) (t : St) : KeepsFrom B w (put5 w g t) :=
  (((((KeepsOthers.setCell w ⟨g, 0, none⟩ _).trans (KeepsOthers.setCell _ ⟨g, 1, none⟩ _)).trans (KeepsOthers.setCell _ ⟨g, 2, none⟩ _)).trans (KeepsOthers.setCell _ ⟨g, 3, none⟩ _)).trans (KeepsOthers.setCell _ ⟨g, 4, none⟩ _)).from B
theorem one_put5 {B g : Nat} (w : World) (h : B ≠ g) (t : St) : One B w (put5 w g t) := World.cell?_of_block (w := w) (a := ⟨B, 0, none⟩) (heap_put5 w h t)
theorem one_set {B g j : Nat} (w : World) (h : B ≠ g) (u : Value) : One B w (w.setCell ⟨g, j, none⟩ u) := World.cell?_of_block (w := w) (a := ⟨B, 0, none⟩) (Below.heap_setCell _ _ _ _ h)
theorem p_perm (s : St) (w : World) (ht : Tab w) : Calls Tryd.prog 21 #[.agg #[.int .u64 (nv s.a), .int .u64 (nv s.b), .int .u64 (nv s.c), .int .u64 (nv s.d), .int .u64 (nv s.e)], .int .i64 12] w (fun y w' => y = .returned (.agg #[.int .u64 (nv (perm s 12).a), .int .u64 (nv (perm s 12).b), .int .u64 (nv (perm s 12).c), .int .u64 (nv (perm s 12).d), .int .u64 (nv (perm s 12).e)]) ∧ Gr w w') :=
  permuted_any s 12 (by omega) w ht
/-- The state behind these words. -/
def eats (x : St) (ws : List (BitVec 64)) : St := ws.foldl eat x
theorem eats_snoc (x : St) (ws : List (BitVec 64)) (y : BitVec 64) : eats x (ws ++ [y]) = eat (eats x ws) y := by unfold eats; rw [List.foldl_append]; rfl
/-- What result's own cells hold, between two rounds. -/
def ResI (X : Nat) (x0 : St) (w : World) (pre : List (BitVec 64)) (W : World) : Prop := ArrS W X (eats x0 pre) ∧ Below w.heap.size w W ∧ X + 2 ≤ W.heap.size
theorem ResI.own (X B : Nat) (x0 : St) (w : World) (h : X < B) (hw : w.heap.size ≤ B) : OwnFrom B (ResI X x0 w) :=
  OwnFrom.and (fun s W W' row h0 hg hr => h0.same (hg.block X h0.lt (fun e => by have := (hr X e.symm).1; omega)) hg.size) (OwnFrom.and (ownFrom_below (Nat.le_refl _) hw) (fun s W W' row h0 hg hr => Nat.le_trans h0 hg.size))
def ResX (c : Code) (pre : List (BitVec 64)) (W : World) : Prop := False
theorem ResX.own (c : Code) (B : Nat) : OwnFrom B (ResX c) := fun s W W' row h _ _ => h
set_option maxRecDepth 100000 in
set_option maxHeartbeats 8000000 in
theorem result_any (s : ByteArray) (kd n : Nat) (hk : kd < 256) (hn : n ≤ 20000) (hs : s.size ≤ 200000) (w : World) (htab : Tab w) : Calls Tryd.prog 23 #[.int .u8 (kd : Nat), .string s, .int .i64 (n : Nat)] w (fun y w' => y = .returned (.string (spS s kd n)) ∧ Gr w w') := by
  obtain ⟨row, hmk⟩ := OwnB.make (n + 8) (by omega)
  have hmk1 : ∀ w : World, (Instr.makeSlice 41 (.int .i64 0) (.int .i64 ((n : Int) + 8))).run Tryd.prog w = .ok (.slice (some ⟨w.heap.size, 0, none⟩) 0 (n + 8)) (w.alloc (.cells row 5)) := fun w => (hmk w).1
  have HMK1 := Lib.hid hmk1
  have HMK := Lib.hid hmk
  have HT := Lib.hid htab
  have HS := Lib.hid hs
  have HIN := Lib.hid (by have := p_perm ⟨BitVec.ofNat 64 (8026104356937031936 + kd), 0, 0, 0, 0⟩ w htab; rw [ini_nv kd hk, ← zero_nv] at this; exact this)
  have hwr : IntKind.u64.wrap (8026104356937031936 + (kd : Int)) = 8026104356937031936 + (kd : Int) := by rw [← ini_nv kd hk]; exact nv_wrap _
  have hwk : IntKind.u64.wrap (kd : Int) = (kd : Int) := by rw [IntKind.wrap_u64]; omega
  obtain ⟨x, hx⟩ : ∃ x, x = perm ⟨BitVec.ofNat 64 (8026104356937031936 + kd), 0, 0, 0, 0⟩ 12 := ⟨_, rfl⟩
  rw [← hx] at HIN
  have HX := Lib.hid (show ini kd = x from by rw [hx]; rfl)
  clear hx hs hmk hmk1 htab
  refine (callsIn_wide (n := 9)).1 ?_
  refine callsIn_of_wp_marks Tryd.func23 rfl trivial ?_ rfl
  simp only [Tryd.ntmps23, List.size_toArray, List.length_cons, List.length_nil, Nat.reduceAdd, Nat.reduceSub, Array.replicate_succ, Array.replicate_zero, List.push_toArray, List.append_toArray, List.nil_append, List.cons_append]
  gi_wp2_with (first
    | (refine ⟨trivial, ?_⟩; gi_at_call 21; refine (callsIn_wide.2 HIN.out).mono ?_; rintro e w1 ⟨rfl, hg1⟩; (have HG1 := Lib.hid hg1); clear hg1)
    | (refine ⟨trivial, ?_⟩; gi_at_call 32; refine (callsIn_wide.2 (blocks_any _ _)).mono ?_; rintro e w2 ⟨rfl, hw2⟩; (have HW2 := Lib.hid hw2); clear hw2))
  clear hwr hwk
  obtain ⟨X, hX⟩ : ∃ X, X = w1.heap.size := ⟨_, rfl⟩
  have hw2 := HW2.out
  have hg1 := HG1.out
  rw [← hX]
  have HXA := Lib.hid (show ArrS w2 X x from by rw [← hw2]; exact (Arr.new hX).later (Gr.new _ _))
  have HCB := Lib.hid (show w2.cell? ⟨X + 1, 0, none⟩ = some (.string s) from by rw [← hw2, hX]; have := cl_new (w1.alloc (.cells #[.int .u64 (nv x.a), .int .u64 (nv x.b), .int .u64 (nv x.c), .int .u64 (nv x.d), .int .u64 (nv x.e)] 23)) #[.string s] 9 0; rw [World.size_alloc] at this; exact this)
  have HSZ := Lib.hid (show w2.heap.size = X + 2 from by rw [← hw2, hX]; simp)
  have HG := Lib.hid (show Gr w w2 ∧ w.heap.size ≤ X from ⟨by rw [← hw2]; exact (hg1.alloc _).alloc _, by rw [hX]; exact hg1.size⟩)
  clear hw2 hg1 hX HW2 HG1 HIN
  refine wpIn_rangeFunc_ownG rfl (by omega) (gf := 37) (lb := #[.pointer (some ⟨X + 1, 0, none⟩)]) rfl trivial (enters_of Tryd.func37 (by kernel_rfl) rfl)
    (blocks_stops s (by have := HS.out; omega) (X + 1) w2 (by have := HSZ.out; omega) HCB.out) (fun h k => One.trans h k) (One.put (by have := HSZ.out; omega)) (Below.refl _ _) (fun _ => rfl)
    (ResI X x w) ResX (ResI.own X _ x w (by have := HSZ.out; omega) (by have := HSZ.out; have := HG.out.2; omega)) (fun c => ResX.own c _) ⟨HXA.out, HG.out.1, by have := HSZ.out; omega⟩
    (fun y => { tmps := #[.int .u8 (kd : Nat), .string s, .int .i64 (n : Nat), undef, undef, undef, .string ⟨#[]⟩, .pointer (some ⟨X, 0, none⟩), .int .u64 (nv y), undef, .int .u8 (kd : Nat), .int .u64 (kd : Nat), .int .u64 (8026104356937031936 + (kd : Int)), .agg #[.int .u64 (8026104356937031936 + (kd : Int)), .int .u64 0, .int .u64 0, .int .u64 0, .int .u64 0], .agg #[.int .u64 (nv x.a), .int .u64 (nv x.b), .int .u64 (nv x.c), .int .u64 (nv x.d), .int .u64 (nv x.e)], .string s, .func (.func 37) #[] #[.pointer (some ⟨X + 1, 0, none⟩)], .int .u64 (nv y), undef, undef, undef, undef, undef, undef, undef, undef, undef, undef, undef, undef, undef, undef, undef, undef, undef, undef, undef, undef, undef, undef, undef, undef], defers := [] }) ?assign ?body ?done ?stop
  case assign =>
    intro l y W K hK
    gi_wp2
    exact hK
  case body =>
    rintro l pre y W ⟨hx, hb, hsw⟩ hlt
    obtain ⟨p, hp⟩ : ∃ p, p = eats x pre := ⟨_, rfl⟩
    rw [← hp] at hx
    obtain ⟨ya, hya⟩ : ∃ ya, ya = p.a ^^^ y := ⟨_, rfl⟩
    have e1 : bits .xor .u64 (nv p.a) (nv y) = nv ya := by rw [hya]; exact nv_xor _ _
    obtain ⟨u, hu⟩ : ∃ u, u = perm ⟨ya, p.b, p.c, p.d, p.e⟩ 12 := ⟨_, rfl⟩
    have HU := Lib.hid (show eats x (pre ++ [y]) = u from by rw [eats_snoc, hu, hya, hp]; rfl)
    have HXS := Lib.hid (show ArrS (W.setCell ⟨X, 0, none⟩ (.int .u64 (nv ya))) X ⟨ya, p.b, p.c, p.d, p.e⟩ from Arr.set0 hx ya)
    have HGS := Lib.hid (show Gr w (W.setCell ⟨X, 0, none⟩ (.int .u64 (nv ya))) from Gr.setCell hb (by show w.heap.size ≤ X; exact HG.out.2) _)
    have HC := Lib.hid (show Calls Tryd.prog 21 #[.agg #[.int .u64 (nv ya), .int .u64 (nv p.b), .int .u64 (nv p.c), .int .u64 (nv p.d), .int .u64 (nv p.e)], .int .i64 12] (W.setCell ⟨X, 0, none⟩ (.int .u64 (nv ya))) (fun y w' => y = .returned (.agg #[.int .u64 (nv u.a), .int .u64 (nv u.b), .int .u64 (nv u.c), .int .u64 (nv u.d), .int .u64 (nv u.e)]) ∧ Gr (W.setCell ⟨X, 0, none⟩ (.int .u64 (nv ya))) w') from by have := p_perm ⟨ya, p.b, p.c, p.d, p.e⟩ _ (HT.out.later HGS.out); rw [← hu] at this; exact this)
    have HX0 := Lib.hid hx
    have HSW := Lib.hid (show X + 2 ≤ W.heap.size from hsw)
    clear hx hb hlt hp hya hu hsw
    have c0 := HX0.out.c0
    have f0 := HX0.out.fz 0
    have c1 := HX0.out.c1
    have f1 := HX0.out.fz 1
    have c2 := HX0.out.c2
    have f2 := HX0.out.fz 2
    have c3 := HX0.out.c3
    have f3 := HX0.out.fz 3
    have c4 := HX0.out.c4
    have f4 := HX0.out.fz 4
    gi_wp2_with (first
      | (refine ⟨trivial, ?_⟩; gi_at_call 21; refine (CallsIn.inRound l (callsIn_wide.2 HC.out)).mono ?_; rintro e w8 ⟨rfl, hg8⟩; (have HX8 := Lib.hid (HXS.out.later hg8)); (have HG8 := Lib.hid hg8); clear c0 c1 c2 c3 c4 f0 f1 f2 f3 f4 hg8; (have c0 := HX8.out.c0); (have f0 := HX8.out.fz 0); (have c1 := HX8.out.c1); (have f1 := HX8.out.fz 1); (have c2 := HX8.out.c2); (have f2 := HX8.out.fz 2); (have c3 := HX8.out.c3); (have f3 := HX8.out.fz 3); (have c4 := HX8.out.c4); (have f4 := HX8.out.fz 4)))
    show KeepsFrom _ W (put5 w8 X u) ∧ One (X + 1) W (put5 w8 X u) ∧ ResI X x w (pre ++ [y]) (put5 w8 X u)
    refine ⟨((KeepsOthers.setCell W _ _).from _).trans ((gr_from HG8.out).trans (from_put5 _ _ _ _)), One.trans (One.trans (one_set W (by omega) _) (One.of_gr HG8.out (by have := HSW.out; simp; omega))) (one_put5 _ (by omega) _), ?_, ?_, ?_⟩
    · rw [HU.out]; exact HX8.out.put u
    · exact (Gr.trans HGS.out HG8.out).put5 HG.out.2 u
    · rw [size_put5]; have := HSW.out; have := HG8.out.size; simp at this; omega
  case done =>
    rintro D ys W hD hall ⟨hx, hb, hsw⟩ hK
    obtain ⟨y, hy⟩ : ∃ y, y = fin s.data.toList kd := ⟨_, rfl⟩
    have hxy : eats x ys = y := by
      rw [hall, hy, ← HX.out]
      unfold fin all eats
      rw [wds_fold, str_len]
    rw [hxy] at hx
    have HF := Lib.hid hy
    have HXA2 := Lib.hid hx
    have HG2 := Lib.hid (show Gr w W from hb)
    have HK2 := Lib.hid hK
    have hDl : D < W.heap.size := (Array.getElem?_eq_some_iff.1 hK).1
    have HDB := Lib.hid (show D < W.heap.size ∧ w.heap.size ≤ D ∧ X < W.heap.size ∧ w.heap.size ≤ X ∧ D ≠ X from ⟨hDl, by have := HSZ.out; have := HG.out.2; omega, hx.lt, HG.out.2, by have := HSZ.out; omega⟩)
    have HOV := Lib.hid (HMK.out W).2
    have hmk1 := HMK1.out
    clear hy hxy hall hx hb hsw hK hDl hD HXA HCB HSZ
    gi_wp2
    clear hmk1
    have HB3 := Lib.hid (show Gr W (W.alloc (.cells row 5)) from Gr.new _ _)
    generalize W.alloc (.cells row 5) = V at HOV HB3 ⊢
    gi_loopw [9] (fun v wq => ∃ m : Nat, 8 * m < n + 8 ∧ OwnB wq W.heap.size v (sq y m) ∧ ArrS wq X (it y m) ∧ Gr w wq ∧ wq.heap[D]? = some (.deferred (some [])) ∧ W.heap.size ≤ wq.heap.size) (fun v _ => 100000 - lenV v)
    case atStart => exact ⟨0, by omega, HOV.out, HXA2.out.later HB3.out, Gr.trans HG2.out HB3.out, (HB3.out.block D HDB.out.1).trans HK2.out, HB3.out.size⟩
    case round =>
      obtain ⟨m, hm, hown, hx, hgr, hK, hsz⟩ := hrel
      obtain ⟨a, c', rfl, hc1, hc2⟩ := hown.form
      rw [sq_len] at hown hc1 ⊢
      obtain ⟨L, hL⟩ : ∃ L, L = 8 * m := ⟨_, rfl⟩
      rw [← hL] at hown hc1 hm ⊢
      obtain ⟨x5, hx5⟩ : ∃ x5, x5 = it y m := ⟨_, rfl⟩
      rw [← hx5] at hx
      have HO6 := Lib.hid hown
      have HX6 := Lib.hid hx
      have HG6 := Lib.hid hgr
      have HK6 := Lib.hid hK
      have HZ6 := Lib.hid hsz
      have HL := Lib.hid (And.intro hL (And.intro hm hx5))
      have hcase : L < n ∨ ¬ L < n := Classical.em _
      rcases hcase with hc | hc
      · have hLi : (L : Int) < (n : Int) := by omega
        have HAW := Lib.hid (fun w => appendWord_any x5.a (sq y m) (by rw [sq_len]; omega) (.slice a L c') W.heap.size w)
        obtain ⟨u, hu⟩ : ∃ u, u = perm x5 12 := ⟨_, rfl⟩
        have HC := Lib.hid (fun wz (ht : Tab wz) => by have := p_perm x5 wz ht; rw [← hu] at this; exact this)
        have HU := Lib.hid (show it y (m + 1) = u ∧ sq y (m + 1) = sq y m ++ blk x5.a from ⟨by rw [hu, hx5]; rfl, by rw [hx5]; rfl⟩)
        have c0 := hx.c0
        clear hown hx hgr hK hsz hL hm hx5 hc1 hc2 hu
        gi_wp2_with (first
          | (refine ⟨trivial, ?_⟩; gi_at_call 33; refine (callsIn_wide.2 (HAW.out _ HO6.out HZ6.out)).mono ?_; rintro e w7 ⟨v7, rfl, ho7, hb7⟩; clear c0; (have HO7 := Lib.hid ho7); (have HB7 := Lib.hid hb7); (have HX7 := Lib.hid (show ArrS w7 X x5 from HX6.out.same (hb7.block X HDB.out.2.2.1) hb7.size)); (have HG7 := Lib.hid (show Gr w w7 from Below.trans HG6.out (Below.mono hb7 (by have := HG2.out.size; omega)))); clear ho7 hb7; (have c0 := HX7.out.c0); (have f0 := HX7.out.fz 0); (have c1 := HX7.out.c1); (have f1 := HX7.out.fz 1); (have c2 := HX7.out.c2); (have f2 := HX7.out.fz 2); (have c3 := HX7.out.c3); (have f3 := HX7.out.fz 3); (have c4 := HX7.out.c4); (have f4 := HX7.out.fz 4))
          | (refine ⟨trivial, ?_⟩; gi_at_call 21; refine (callsIn_wide.2 (HC.out _ (HT.out.later HG7.out))).mono ?_; rintro e w8 ⟨rfl, hg8⟩; clear c0 c1 c2 c3 c4 f0 f1 f2 f3 f4; (have HG8 := Lib.hid hg8); (have HX8 := Lib.hid (HX7.out.later hg8)); clear hg8; (have c0 := HX8.out.c0); (have f0 := HX8.out.fz 0); (have c1 := HX8.out.c1); (have f1 := HX8.out.fz 1); (have c2 := HX8.out.c2); (have f2 := HX8.out.fz 2); (have c3 := HX8.out.c3); (have f3 := HX8.out.fz 3); (have c4 := HX8.out.c4); (have f4 := HX8.out.fz 4)))
        go_roundw
        case rel =>
          refine ⟨m + 1, by have := HL.out; omega, by rw [HU.out.2]; exact (HO7.out.later HG8.out).same (by simp) (fun k hk => by have := (HO7.out.lt k hk).1; have := HDB.out; exact heap_put5 _ (by omega) u), by rw [HU.out.1]; exact HX8.out.put u, (Gr.trans HG7.out HG8.out).put5 HDB.out.2.2.2.1 u, ?_, ?_⟩
          · exact (heap_put5 w8 HDB.out.2.2.2.2 u).trans ((HG8.out.block D (by have := HDB.out.1; have := HB7.out.size; have := HZ6.out; omega)).trans ((HB7.out.block D HDB.out.1).trans HK6.out))
          · show W.heap.size ≤ (put5 w8 X u).heap.size
            rw [size_put5]
            have := HB7.out.size
            have := HZ6.out
            have := HG8.out.size
            omega
        case measure =>
          obtain ⟨a7, c7, e7, _, _⟩ := HO7.out.form
          rw [e7, List.length_append, sq_len, blk_len]
          have h1 := HL.out.1
          have h2 := HL.out.2.1
          simp [lenV]
          omega
      · have hLi : ¬ (L : Int) < (n : Int) := by omega
        have HTK := Lib.hid (show (sq y m).take n = spg s.data.toList kd n from by rw [HF.out]; exact spg_is s.data.toList kd n m (by have := HL.out.1; omega))
        clear hx hgr hK hsz hL hm hx5 hc1 hc2
        rcases hown with ⟨e, e2⟩ | ⟨g6, c6, e, _, _, h1, h2, hat, _, _⟩
        · injection e with q1 q2 q3
          subst q1 q3 q2
          obtain rfl : n = 0 := by omega
          have hst := nil_str wr
          have HE := Lib.hid (show spS s kd 0 = ByteArray.empty from by unfold spS; rw [← HTK.out]; rfl)
          gi_wp2
          refine ⟨by simp, .inl ⟨_, _, rfl, run_takeDeferred HK6.out, ?_⟩⟩
          exact ⟨_, results_tmp rfl _ _ _, by rw [HE.out]; rfl, Below.trans HG6.out (belowK_b (w := w) (Nat.le_refl _) wr D _ _ HDB.out.2.1 HK6.out rfl rfl)⟩
        · injection e with q1 q2 q3
          subst q1 q3
          have hnl : ((sq y m).take n).length = n := by rw [List.length_take]; omega
          have hst := run_convert_bytes_back (P := Tryd.prog) wr 41 9 5 ⟨g6, 0, none⟩ c' ((sq y m).take n) Tryd.underlying41 Tryd.underlying5 Tryd.underlying9 (fun j hj => by
            have hj2 : j < n := by rw [hnl] at hj; exact hj
            rw [List.getElem_take]
            exact hat j _ (List.getElem?_eq_getElem _))
          rw [hnl, HTK.out] at hst
          obtain ⟨R, hR⟩ : ∃ R : ByteArray, R = ⟨(spg s.data.toList kd n).toArray⟩ := ⟨_, rfl⟩
          rw [← hR] at hst
          have HR := Lib.hid hR
          have hnc : (n : Int) ≤ (c' : Int) := by omega
          have hn0 : (0 : Int) ≤ (n : Int) := by omega
          clear hR hat hnl q2 h1 h2
          gi_wp2
          refine ⟨by simp, .inl ⟨_, _, rfl, run_takeDeferred HK6.out, ?_⟩⟩
          exact ⟨_, results_tmp rfl _ _ _, by rw [HR.out]; rfl, Below.trans HG6.out (belowK_b (w := w) (Nat.le_refl _) wr D _ _ HDB.out.2.1 HK6.out rfl rfl)⟩
  case stop =>
    rintro D c pre W hD _ hx hK
    exact hx.elim
theorem pDigest_any (s : ByteArray) (hs : s.size ≤ 200000) (w : World) (htab : Tab w) : Calls Tryd.prog 13 #[.string s] w (fun y w' => y = .returned (.string (spS s 0 32)) ∧ Gr w w') := by
  have HC := Lib.hid (result_any s 0 32 (by omega) (by omega) hs w htab)
  clear hs htab
  go_enter Tryd.func13, Tryd.ntmps13
  go_wp2_with (go_at_call 23; refine HC.out.mono ?_; rintro y w1 ⟨rfl, hg1⟩)
  go_ret
  exact ⟨rfl, hg1⟩
theorem pShort_any (s : ByteArray) (hs : s.size ≤ 200000) (w : World) (htab : Tab w) : Calls Tryd.prog 15 #[.string s] w (fun y w' => y = .returned (.string (spS s 0 8)) ∧ Gr w w') := by
  have HC := Lib.hid (result_any s 0 8 (by omega) (by omega) hs w htab)
  clear hs htab
  go_enter Tryd.func15, Tryd.ntmps15
  go_wp2_with (go_at_call 23; refine HC.out.mono ?_; rintro y w1 ⟨rfl, hg1⟩)
  go_ret
  exact ⟨rfl, hg1⟩
end Go.Proofs.YtblaimkcdhcclaaDoor
