/- The law SpongeLists. -/
import Derived.Test.YtblaimkcdhcclaaDoorWo
namespace Go.Proofs.YtblaimkcdhcclaaDoor
open Go.RowKit Oz
set_option linter.unusedVariables false
set_option linter.unusedSimpArgs false
theorem exec_conv {P : Program} {f : Operand → Value} {o : Oper} {t u : TypeId} {x : Operand} {v X : Value} {w : World} (ho : o.op = .convert t u x) (hx : f x = X) (h : (convert t u X).run P w = .ok v w) : (execOp f o).run P w = .ok (.value v) w := by
  subst hx
  unfold execOp
  simp [ho, h]
theorem f4_small (n : Nat) (h : n < 65536) : f4 n = [0, 0, UInt8.ofNat (n / 256), UInt8.ofNat n] := by
  unfold f4
  rw [show n / 16777216 = 0 by omega, show n / 65536 = 0 by omega]
  rfl
theorem At.newL (W : World) (g : Nat) (hg : g = W.heap.size) (l : List UInt8) (C : Array Value) (hC : C = (bcells l).toArray) (T : TypeId) : At (W.alloc (.cells C T)) ⟨g, 0, none⟩ l := by
  subst hg hC
  refine At.of_cells fun j u hu => ?_
  rw [add0, show (W.alloc (.cells (bcells l).toArray T)).cell? ⟨W.heap.size, j, none⟩ = (bcells l).toArray[j]? from World.cell?_alloc_mark W _ T (0, 0) j]
  simpa using hu
theorem OwnB.newL (W : World) (l : List UInt8) (C : Array Value) (hC : C = (bcells l).toArray) (hl : l.length ≤ 1000) (T : TypeId) : OwnB (W.alloc (.cells C T)) W.heap.size (.slice (some ⟨W.heap.size, 0, none⟩) l.length l.length) l := by
  have hc : ∀ j, (W.alloc (.cells C T)).cell? ⟨W.heap.size, j, none⟩ = C[j]? := fun j => World.cell?_alloc_mark W _ T (0, 0) j
  refine .inr ⟨W.heap.size, l.length, rfl, Nat.le_refl _, by simp, Nat.le_refl _, by omega, At.newL W _ rfl l C hC T, fun j hj => ?_, fun j hj => ?_⟩
  · rw [hc, hC]; simp [bcells_len, hj]
  · have h := World.frozen?_alloc_mark W C T 0 0 j
    rw [show (W.alloc (.cells C T)) = W.alloc (.cells C T (0, 0)) from rfl, h]; simp
set_option maxRecDepth 100000 in
set_option maxHeartbeats 8000000 in
theorem lists_law (hP : PermOK) (hS : StrmOK) (hD : DigOK) (hT : ShrtOK) (hL : ListOK) (d : Nat) (v : Value) (n : Nat) (S : Nat → ByteArray) (w : World) (hd : d < 256) (hv : HasStr w v n S) (hsz : ∀ i, (S i).size ≤ 9223372036854775807) (htab : Tab w) :
    Calls Tryd.prog 6 #[.int .u8 (d : Nat), v] w (Truth w) := by
  have HTB := Lib.hid htab
  clear htab
  have HSH := Lib.hid (shown_any hP hS hD hT)
  have HLO := Lib.hid (long_any v n 5000 S w hv (by omega) hsz)
  have HV := Lib.hid hv
  obtain ⟨a, cap, rfl, hn1, hn2, hA⟩ := hv
  have HA := Lib.hid hA
  clear hA
  go_enter Tryd.func6, Tryd.ntmps6
  go_wp2_with fail
  refine HLO.out.mono ?_
  rintro e w1 ⟨b, rfl, hb, hg1⟩
  have HG1 := Lib.hid hg1
  clear hg1 HLO
  cases b with
  | true =>
    clear hb
    go_wp2_with (go_at_call 9; refine (HSH.out _ (HTB.out.later HG1.out)).mono ?_; rintro e w2 ⟨rfl, hg2⟩)
    go_ret
    exact ⟨rfl, Gr.trans HG1.out hg2⟩
  | false =>
    have hw := hb rfl
    clear hb
    have hnw := wsum_le S n
    have HW := Lib.hid hw
    obtain ⟨q, hq⟩ : ∃ q, q = n / 256 := ⟨_, rfl⟩
    have hq5 : q < 9223372036854775808 := by omega
    have hqi : (n : Int).tdiv 256 = (q : Int) := by rw [Int.tdiv_eq_ediv_of_nonneg (by omega)]; omega
    obtain ⟨y0, hy0⟩ : ∃ y0 : UInt8, y0 = UInt8.ofNat d := ⟨_, rfl⟩
    obtain ⟨y1, hy1⟩ : ∃ y1 : UInt8, y1 = UInt8.ofNat q := ⟨_, rfl⟩
    obtain ⟨y2, hy2⟩ : ∃ y2 : UInt8, y2 = UInt8.ofNat n := ⟨_, rfl⟩
    have e0 : (d : Int) = (y0.toNat : Int) := by rw [hy0, UInt8.toNat_ofNat']; omega
    have e1 : IntKind.u8.wrap (q : Int) = (y1.toNat : Int) := by rw [hy1]; exact u8_of q
    have e2 : IntKind.u8.wrap (n : Int) = (y2.toNat : Int) := by rw [hy2]; exact u8_of n
    have HL0 := Lib.hid (show lpre d n S 0 = [y0, 0, 0, y1, y2] from by rw [lpre, f4_small n (by omega), hy0, hy1, hy2, hq])
    have HDG := Lib.hid (fun w (ht : Tab w) => hD (lstB d n S) w ht (by have h1 := lpre_len d n S n; show (lpre d n S n).toArray.size ≤ 200000; rw [List.size_toArray]; omega))
    have HLS := Lib.hid (fun w (ht : Tab w) (h : HasStr w (.slice a n cap) n S) => hL d n (.slice a n cap) S w ht hd h (by omega))
    have HO0 := Lib.hid (show OwnB (w1.alloc (.cells #[.int .u8 (d : Int), .int .u8 0, .int .u8 0, .int .u8 (y1.toNat : Int), .int .u8 (y2.toNat : Int)] 5)) w1.heap.size (.slice (some ⟨w1.heap.size, 0, none⟩) 5 5) (lpre d n S 0) from by rw [HL0.out]; exact OwnB.newL w1 [y0, 0, 0, y1, y2] _ (by rw [e0]; rfl) (by simp) _)
    have HG0 := Lib.hid (show Gr w (w1.alloc (.cells #[.int .u8 (d : Int), .int .u8 0, .int .u8 0, .int .u8 (y1.toNat : Int), .int .u8 (y2.toNat : Int)] 5)) from HG1.out.alloc _)
    have hn3 : (n : Int) ≤ 5000 := by omega
    have HB := Lib.hid HG1.out.size
    obtain ⟨B, hB⟩ : ∃ B, B = w1.heap.size := ⟨_, rfl⟩
    clear hq hy0 hy1 hy2 e0 hP hS hD hT hL hw hnw
    have ew : wrap64 (q : Int) = (q : Int) := wrap_nat rfl hq5
    have ew2 : IntKind.i64.wrap (q : Int) = (q : Int) := iwrap_nat rfl hq5
    go_wp2_with fail
    clear hqi e1 e2 ew ew2 hq5
    rw [← hB] at HO0 HB ⊢
    clear hB
    go_loopw [5, 6] (fun v5 v6 wr => ∃ i : Nat, v6 = .int .i64 (i : Nat) ∧ i ≤ n ∧ OwnB wr B v5 (lpre d n S i) ∧ Gr w wr ∧ B ≤ wr.heap.size) (fun _ v6 _ => n - (intOf v6).toNat)
    case atStart => exact ⟨0, rfl, by omega, HO0.out, HG0.out, by have := HO0.out.lt B rfl; omega⟩
    case round =>
      obtain ⟨i, rfl, hi, hown, hgr, hbs⟩ := hrel
      have HO := Lib.hid hown
      have HG := Lib.hid hgr
      have HBS := Lib.hid hbs
      have hcase : i < n ∨ ¬ i < n := Classical.em _
      rcases hcase with hc | hc
      · have hci : (i : Int) < (n : Int) := by omega
        obtain ⟨gl, ol, rfl, hcell⟩ := HA.out i hc
        have HKEEP := Lib.hid (fun wz (hz : Gr w wz) => show wz.cell? ⟨gl, ol + i, none⟩ = some (.string (S i)) from hz.keeps hcell)
        have h1 := wsum_mono S (show i + 1 ≤ n by omega)
        have h2 := lpre_len d n S i
        have h3 : wsum S (i + 1) = wsum S i + (S i).size + 1 := rfl
        have hw2 := HW.out
        have HLE := Lib.hid (show (lpre d n S i).length + 4 ≤ 900000 ∧ (S i).size ≤ 5000 from by omega)
        obtain ⟨L, hL⟩ : ∃ L, L = (S i).size := ⟨_, rfl⟩
        have hLi : ((S i).size : Int) = (L : Int) := by omega
        have hL5 : L ≤ 5000 := by omega
        obtain ⟨lq, hlq⟩ : ∃ lq, lq = L / 256 := ⟨_, rfl⟩
        have hlq5 : lq < 9223372036854775808 := by omega
        have hlqi : (L : Int).tdiv 256 = (lq : Int) := by rw [Int.tdiv_eq_ediv_of_nonneg (by omega)]; omega
        obtain ⟨z1, hz1⟩ : ∃ z1 : UInt8, z1 = UInt8.ofNat lq := ⟨_, rfl⟩
        obtain ⟨z2, hz2⟩ : ∃ z2 : UInt8, z2 = UInt8.ofNat L := ⟨_, rfl⟩
        have e1 : IntKind.u8.wrap (lq : Int) = (z1.toNat : Int) := by rw [hz1]; exact u8_of lq
        have e2 : IntKind.u8.wrap (L : Int) = (z2.toNat : Int) := by rw [hz2]; exact u8_of L
        obtain ⟨p, hp⟩ : ∃ p, p = lpre d n S i := ⟨_, rfl⟩
        rw [← hp] at HO HLE
        have HPN := Lib.hid (show lpre d n S (i + 1) = p ++ ([0, 0, z1, z2] ++ (S i).data.toList) from by rw [hp, hz1, hz2, hlq, ← f4_small L (by omega), hL]; rfl)
        have HGD := Lib.hid (show Gr w wr.drew from Below.drew hgr)
        have HGA := Lib.hid (show Gr w (wr.drew.alloc (.cells #[.int .u8 0, .int .u8 0, .int .u8 (z1.toNat : Int), .int .u8 (z2.toNat : Int)] 5)) from (Below.drew hgr).alloc (Nat.le_trans hgr.size (Nat.le_refl _)) _)
        have HA8 := Lib.hid (show At (wr.drew.alloc (.cells #[.int .u8 0, .int .u8 0, .int .u8 (z1.toNat : Int), .int .u8 (z2.toNat : Int)] 5)) ⟨wr.heap.size, 0, none⟩ [0, 0, z1, z2] from At.newL wr.drew _ rfl [0, 0, z1, z2] _ rfl _)
        have HO8 := Lib.hid (show OwnB (wr.drew.alloc (.cells #[.int .u8 0, .int .u8 0, .int .u8 (z1.toNat : Int), .int .u8 (z2.toNat : Int)] 5)) B u5 p from (HO.out.later (Below.drew (Gr.refl wr))).later (Gr.new _ _))
        clear hown hgr hcell h1 h2 h3 hL hp hlq hz1 hz2 hw2 hbs
        have ew : wrap64 (lq : Int) = (lq : Int) := wrap_nat rfl hlq5
        have ew2 : IntKind.i64.wrap (lq : Int) = (lq : Int) := iwrap_nat rfl hlq5
        go_wp2_with fail
        refine Oy.region_but (fun wz => wz.cell? ⟨gl, ol + i, none⟩ = some (.string (S i))) 21 (by kernel_rfl) ?_
        have hHeld : (fun wz : World => wz.cell? ⟨gl, ol + i, none⟩ = some (.string (S i))) _ := (HKEEP.out _ HGD.out)
        show Oy.AnyBut _ _ _ _ _ _ 22 #[false, false, false, false, false, false, false, false, false, false, false, false, false, false, false, false, false, false, false, false, false, false] _ _
        refine Oy.AnyBut.take (i := 0) (v := ?_) rfl (by kernel_rfl) (by kernel_rfl) (fun _ _ _ h => h) (by kernel_rfl) (by kernel_rfl) (_root_.Or.inl ⟨by kernel_rfl, ?_⟩) hHeld ?_
        rotate_left
        · intro w0 hSw; (try dsimp only at hSw); go_simp; try with_reducible rfl
        try simp only [Act.put, List.setIfInBounds_toArray, List.set_cons_zero, List.set_cons_succ]
        refine Oy.AnyBut.take (i := 1) (v := ?_) rfl (by kernel_rfl) (by kernel_rfl) (fun _ _ _ h => h) (by kernel_rfl) (by kernel_rfl) (_root_.Or.inl ⟨by kernel_rfl, ?_⟩) hHeld ?_
        rotate_left
        · intro w0 hSw; (try dsimp only at hSw); go_simp; try with_reducible rfl
        try simp only [Act.put, List.setIfInBounds_toArray, List.set_cons_zero, List.set_cons_succ]
        refine Oy.AnyBut.take (i := 2) (v := ?_) rfl (by kernel_rfl) (by kernel_rfl) (fun _ _ _ h => h) (by kernel_rfl) (by kernel_rfl) (_root_.Or.inl ⟨by kernel_rfl, ?_⟩) hHeld ?_
        rotate_left
        · intro w0 hSw; (try dsimp only at hSw); go_simp; try with_reducible rfl
        try simp only [Act.put, List.setIfInBounds_toArray, List.set_cons_zero, List.set_cons_succ]
        refine Oy.AnyBut.take (i := 3) (v := ?_) rfl (by kernel_rfl) (by kernel_rfl) (fun _ _ _ h => h) (by kernel_rfl) (by kernel_rfl) (_root_.Or.inl ⟨by kernel_rfl, ?_⟩) hHeld ?_
        rotate_left
        · intro w0 hSw; (try dsimp only at hSw); go_simp; try with_reducible rfl
        try simp only [Act.put, List.setIfInBounds_toArray, List.set_cons_zero, List.set_cons_succ]
        refine Oy.AnyBut.take (i := 4) (v := ?_) rfl (by kernel_rfl) (by kernel_rfl) (fun _ _ _ h => h) (by kernel_rfl) (by kernel_rfl) (_root_.Or.inl ⟨by kernel_rfl, ?_⟩) hHeld ?_
        rotate_left
        · intro w0 hSw; (try dsimp only at hSw); go_simp; try with_reducible rfl
        try simp only [Act.put, List.setIfInBounds_toArray, List.set_cons_zero, List.set_cons_succ]
        refine Oy.AnyBut.take (i := 5) (v := ?_) rfl (by kernel_rfl) (by kernel_rfl) (fun _ _ _ h => h) (by kernel_rfl) (by kernel_rfl) (_root_.Or.inl ⟨by kernel_rfl, ?_⟩) hHeld ?_
        rotate_left
        · intro w0 hSw; (try dsimp only at hSw); go_simp; try with_reducible rfl
        try simp only [Act.put, List.setIfInBounds_toArray, List.set_cons_zero, List.set_cons_succ]
        refine Oy.AnyBut.take (i := 6) (v := ?_) rfl (by kernel_rfl) (by kernel_rfl) (fun _ _ _ h => h) (by kernel_rfl) (by kernel_rfl) (_root_.Or.inl ⟨by kernel_rfl, ?_⟩) hHeld ?_
        rotate_left
        · intro w0 hSw; (try dsimp only at hSw); go_simp; try with_reducible rfl
        try simp only [Act.put, List.setIfInBounds_toArray, List.set_cons_zero, List.set_cons_succ]
        refine Oy.AnyBut.take (i := 7) (v := ?_) rfl (by kernel_rfl) (by kernel_rfl) (fun _ _ _ h => h) (by kernel_rfl) (by kernel_rfl) (_root_.Or.inl ⟨by kernel_rfl, ?_⟩) hHeld ?_
        rotate_left
        · intro w0 hSw; (try dsimp only at hSw); go_simp; try with_reducible rfl
        try simp only [Act.put, List.setIfInBounds_toArray, List.set_cons_zero, List.set_cons_succ]
        refine Oy.AnyBut.take (i := 8) (v := ?_) rfl (by kernel_rfl) (by kernel_rfl) (fun _ _ _ h => h) (by kernel_rfl) (by kernel_rfl) (_root_.Or.inl ⟨by kernel_rfl, ?_⟩) hHeld ?_
        rotate_left
        · intro w0 hSw; (try dsimp only at hSw); go_simp; try with_reducible rfl
        try simp only [Act.put, List.setIfInBounds_toArray, List.set_cons_zero, List.set_cons_succ]
        refine Oy.AnyBut.take (i := 9) (v := ?_) rfl (by kernel_rfl) (by kernel_rfl) (fun _ _ _ h => h) (by kernel_rfl) (by kernel_rfl) (_root_.Or.inl ⟨by kernel_rfl, ?_⟩) hHeld ?_
        rotate_left
        · intro w0 hSw; (try dsimp only at hSw); go_simp; try with_reducible rfl
        try simp only [Act.put, List.setIfInBounds_toArray, List.set_cons_zero, List.set_cons_succ]
        refine Oy.AnyBut.take (i := 10) (v := ?_) rfl (by kernel_rfl) (by kernel_rfl) (fun _ _ _ h => h) (by kernel_rfl) (by kernel_rfl) (_root_.Or.inl ⟨by kernel_rfl, ?_⟩) hHeld ?_
        rotate_left
        · intro w0 hSw; (try dsimp only at hSw); go_simp; try with_reducible rfl
        try simp only [Act.put, List.setIfInBounds_toArray, List.set_cons_zero, List.set_cons_succ]
        refine Oy.AnyBut.take (i := 11) (v := ?_) rfl (by kernel_rfl) (by kernel_rfl) (fun _ _ _ h => h) (by kernel_rfl) (by kernel_rfl) (_root_.Or.inl ⟨by kernel_rfl, ?_⟩) hHeld ?_
        rotate_left
        · intro w0 hSw; (try dsimp only at hSw); go_simp; try with_reducible rfl
        try simp only [Act.put, List.setIfInBounds_toArray, List.set_cons_zero, List.set_cons_succ]
        refine Oy.AnyBut.take (i := 12) (v := ?_) rfl (by kernel_rfl) (by kernel_rfl) (fun _ _ _ h => h) (by kernel_rfl) (by kernel_rfl) (_root_.Or.inl ⟨by kernel_rfl, ?_⟩) hHeld ?_
        rotate_left
        · intro w0 hSw; (try dsimp only at hSw); go_simp; try with_reducible rfl
        try simp only [Act.put, List.setIfInBounds_toArray, List.set_cons_zero, List.set_cons_succ]
        refine Oy.AnyBut.take (i := 13) (v := ?_) rfl (by kernel_rfl) (by kernel_rfl) (fun _ _ _ h => h) (by kernel_rfl) (by kernel_rfl) (_root_.Or.inl ⟨by kernel_rfl, ?_⟩) hHeld ?_
        rotate_left
        · intro w0 hSw; (try dsimp only at hSw); go_simp; try with_reducible rfl
        try simp only [Act.put, List.setIfInBounds_toArray, List.set_cons_zero, List.set_cons_succ]
        refine Oy.AnyBut.take (i := 16) (v := ?_) rfl (by kernel_rfl) (by kernel_rfl) (fun _ _ _ h => h) (by kernel_rfl) (by kernel_rfl) (_root_.Or.inl ⟨by kernel_rfl, ?_⟩) hHeld ?_
        rotate_left
        · intro w0 hSw; (try dsimp only at hSw); go_simp; try with_reducible rfl
        try simp only [Act.put, List.setIfInBounds_toArray, List.set_cons_zero, List.set_cons_succ]
        refine Oy.AnyBut.take (i := 17) (v := ?_) rfl (by kernel_rfl) (by kernel_rfl) (fun _ _ _ h => h) (by kernel_rfl) (by kernel_rfl) (_root_.Or.inl ⟨by kernel_rfl, ?_⟩) hHeld ?_
        rotate_left
        · intro w0 hSw; (try dsimp only at hSw); go_simp; try with_reducible rfl
        try simp only [Act.put, List.setIfInBounds_toArray, List.set_cons_zero, List.set_cons_succ]
        refine Oy.AnyBut.take (i := 18) (v := ?_) rfl (by kernel_rfl) (by kernel_rfl) (fun _ _ _ h => h) (by kernel_rfl) (by kernel_rfl) (_root_.Or.inl ⟨by kernel_rfl, ?_⟩) hHeld ?_
        rotate_left
        · intro w0 hSw; (try dsimp only at hSw); go_simp; try with_reducible rfl
        try simp only [Act.put, List.setIfInBounds_toArray, List.set_cons_zero, List.set_cons_succ]
        refine Oy.AnyBut.take (i := 19) (v := ?_) rfl (by kernel_rfl) (by kernel_rfl) (fun _ _ _ h => h) (by kernel_rfl) (by kernel_rfl) (_root_.Or.inl ⟨by kernel_rfl, ?_⟩) hHeld ?_
        rotate_left
        · intro w0 hSw; (try dsimp only at hSw); go_simp; try with_reducible rfl
        try simp only [Act.put, List.setIfInBounds_toArray, List.set_cons_zero, List.set_cons_succ]
        refine Oy.AnyBut.ready (rs := [14]) (by kernel_rfl) (by simp) ?_
        refine Oy.ReadyBut.cons rfl (fun K hK => ?_) ?_
        · clear ew ew2 hlqi e1 e2
          go_simp
          refine hK.out _ _ (HKEEP.out _ HGA.out) ?_
          replace hHeld : (fun wz : World => wz.cell? ⟨gl, ol + i, none⟩ = some (.string (S i))) _ := (HKEEP.out _ HGA.out)
          clear hK K
          try simp only [Act.put, List.setIfInBounds_toArray, List.set_cons_zero, List.set_cons_succ]
          refine Oy.AnyBut.ready (rs := [15]) (by kernel_rfl) (by simp) ?_
          refine Oy.ReadyBut.cons rfl (fun K hK => ?_) ?_
          · rw [if_pos (by rfl)]
            refine wp_appB (.tmp 25) (.tmp 39) rfl rfl B u5 p rfl HO8.out ⟨_, 0, none⟩ 4 4 [0, 0, z1, z2] rfl rfl HA8.out (by simp) (by have := HLE.out; simp; omega) (by have := HBS.out; simp; omega) ?_
            intro v9 w9 hown hgrow
            have HO9 := Lib.hid hown
            have HG9 := Lib.hid (show Gr w w9 from OwnB.grown HGA.out HO8.out hgrow HB.out)
            have HB9 := Lib.hid (show B ≤ w9.heap.size from by have := HBS.out; have := hgrow.size; simp at this; omega)
            clear hown hgrow
            refine hK.out _ _ (HKEEP.out _ HG9.out) ?_
            replace hHeld : (fun wz : World => wz.cell? ⟨gl, ol + i, none⟩ = some (.string (S i))) _ := (HKEEP.out _ HG9.out)
            clear hK K
            try simp only [Act.put, List.setIfInBounds_toArray, List.set_cons_zero, List.set_cons_succ]
            refine Oy.AnyBut.ready (rs := [20]) (by kernel_rfl) (by simp) ?_
            refine Oy.ReadyBut.cons rfl (fun K hK => ?_) ?_
            · rw [if_pos (by rfl)]
              refine wp_appS (.tmp 40) (.tmp 44) rfl rfl B v9 (p ++ [0, 0, z1, z2]) rfl HO9.out (by simp) (S i) rfl (by have := HLE.out; simp; omega) HB9.out ?_
              intro v10 w10 hown hgrow
              have HO10 := Lib.hid hown
              have HG10 := Lib.hid (show Gr w w10 from OwnB.grown HG9.out HO9.out hgrow HB.out)
              have HB10 := Lib.hid (Nat.le_trans HB9.out hgrow.size)
              clear hown hgrow
              refine hK.out _ _ (HKEEP.out _ HG10.out) ?_
              replace hHeld : (fun wz : World => wz.cell? ⟨gl, ol + i, none⟩ = some (.string (S i))) _ := (HKEEP.out _ HG10.out)
              clear hK K
              try simp only [Act.put, List.setIfInBounds_toArray, List.set_cons_zero, List.set_cons_succ]
              refine Oy.AnyBut.ready (rs := [21]) (by kernel_rfl) (by simp) ?_
              refine Oy.ReadyBut.last rfl (fun K hK => ?_)
              go_simp
              refine hK.out _ _ ?_
              clear hK K
              try simp only [Act.put, List.setIfInBounds_toArray, List.set_cons_zero, List.set_cons_succ]
              refine Oy.AnyBut.done (by kernel_rfl) ?_ _
              clear hHeld
              go_wp2_with fail
              go_roundw
              case rel => exact ⟨i + 1, by simp, by omega, by rw [HPN.out, ← List.append_assoc]; exact HO10.out, HG10.out, HB10.out⟩
              case measure => simp [intOf]; omega
            exact Oy.ReadyBut.nil
          exact Oy.ReadyBut.nil
        exact Oy.ReadyBut.nil
      · obtain rfl : i = n := by omega
        have hci : ¬ (i : Int) < (i : Int) := by omega
        obtain ⟨g6, c6, rfl, _, hg6, _, _, hat⟩ := hown.row (lpre_pos d i S i)
        obtain ⟨D, hD⟩ : ∃ D, D = (lpre d i S i).length := ⟨_, rfl⟩
        obtain ⟨X, hX⟩ : ∃ X, X = spS (lstB d i S) 0 32 := ⟨_, rfl⟩
        obtain ⟨R, hR⟩ : ∃ R, R = lstB d i S := ⟨_, rfl⟩
        have HST := Lib.hid (fun w (h : At w ⟨g6, 0, none⟩ (lpre d i S i)) => show (convert 41 9 (.slice (some ⟨g6, 0, none⟩) D c6)).run Tryd.prog w = .ok (.string R) w from by
          have hst := run_convert_bytes_back (P := Tryd.prog) w 41 9 5 ⟨g6, 0, none⟩ c6 (lpre d i S i) Tryd.underlying41 Tryd.underlying5 Tryd.underlying9 (fun j hj => h j _ (List.getElem?_eq_getElem hj))
          rw [hD, hR]; exact hst)
        rw [← hX] at HLS HDG
        rw [← hR] at HDG
        rw [← hD]
        have HKEEP := Lib.hid (fun wz (hz : Gr wr wz) => show At wz ⟨g6, 0, none⟩ (lpre d i S i) from hat.later hg6 hz)
        have HGD := Lib.hid (show Gr wr wr.drew from Below.drew (Gr.refl wr))
        clear hown hgr hat hR hD hX hbs hg6
        go_wp2_with fail
        refine Oy.region_but (fun wz => At wz ⟨g6, 0, none⟩ (lpre d i S i)) 10 (by kernel_rfl) ?_
        have hHeld : (fun wz : World => At wz ⟨g6, 0, none⟩ (lpre d i S i)) _ := (HKEEP.out _ HGD.out)
        show Oy.AnyBut _ _ _ _ _ _ 11 #[false, false, false, false, false, false, false, false, false, false, false] _ _
        refine Oy.AnyBut.take (i := 0) (v := ?_) rfl (by kernel_rfl) (by kernel_rfl) (fun _ _ _ h => h) (by kernel_rfl) (by kernel_rfl) (_root_.Or.inl ⟨by kernel_rfl, ?_⟩) hHeld ?_
        rotate_left
        · intro w0 hSw; (try dsimp only at hSw); go_simp; try with_reducible rfl
        try simp only [Act.put, List.setIfInBounds_toArray, List.set_cons_zero, List.set_cons_succ]
        refine Oy.AnyBut.take (i := 1) (v := ?_) rfl (by kernel_rfl) (by kernel_rfl) (fun _ _ _ h => h) (by kernel_rfl) (by kernel_rfl) (_root_.Or.inl ⟨by kernel_rfl, ?_⟩) hHeld ?_
        rotate_left
        · intro w0 hSw; (try dsimp only at hSw); go_simp; try with_reducible rfl
        try simp only [Act.put, List.setIfInBounds_toArray, List.set_cons_zero, List.set_cons_succ]
        refine Oy.AnyBut.take (i := 3) (v := ?_) rfl (by kernel_rfl) (by kernel_rfl) (fun _ _ _ h => h) (by kernel_rfl) (by kernel_rfl) (_root_.Or.inl ⟨by kernel_rfl, ?_⟩) hHeld ?_
        rotate_left
        · intro w0 hSw; (try dsimp only at hSw); go_simp; try with_reducible rfl
        try simp only [Act.put, List.setIfInBounds_toArray, List.set_cons_zero, List.set_cons_succ]
        refine Oy.AnyBut.take (i := 4) (v := .string R) rfl (by kernel_rfl) (by kernel_rfl) (fun _ _ _ h => h) (by kernel_rfl) (by kernel_rfl) (_root_.Or.inl ⟨by kernel_rfl, ?_⟩) hHeld ?_
        · intro w0 hSw; exact exec_conv rfl rfl (HST.out _ hSw)
        try simp only [Act.put, List.setIfInBounds_toArray, List.set_cons_zero, List.set_cons_succ]
        refine Oy.AnyBut.ready (rs := [2]) (by kernel_rfl) (by simp) ?_
        refine Oy.ReadyBut.cons rfl (fun K hK => ?_) ?_
        · go_simp
          go_at_call 17
          refine (HLS.out _ (HTB.out.later (Gr.trans HG.out HGD.out)) (HV.out.later (Gr.trans HG.out HGD.out))).mono ?_
          rintro y w8 ⟨rfl, hg8⟩
          have HG8 := Lib.hid (Gr.trans HGD.out hg8)
          clear hg8
          go_wp2_with fail
          refine hK.out _ _ (HKEEP.out _ HG8.out) ?_
          replace hHeld : (fun wz : World => At wz ⟨g6, 0, none⟩ (lpre d i S i)) _ := (HKEEP.out _ HG8.out)
          clear hK K
          try simp only [Act.put, List.setIfInBounds_toArray, List.set_cons_zero, List.set_cons_succ]
          refine Oy.AnyBut.ready (rs := [5]) (by kernel_rfl) (by simp) ?_
          refine Oy.ReadyBut.cons rfl (fun K hK => ?_) ?_
          · go_simp
            go_at_call 13
            refine (HDG.out _ (HTB.out.later (Gr.trans HG.out HG8.out))).mono ?_
            rintro y w9 ⟨rfl, hg9⟩
            have HG9 := Lib.hid (Gr.trans HG8.out hg9)
            clear hg9
            go_wp2_with fail
            refine hK.out _ _ (HKEEP.out _ HG9.out) ?_
            replace hHeld : (fun wz : World => At wz ⟨g6, 0, none⟩ (lpre d i S i)) _ := (HKEEP.out _ HG9.out)
            clear hK K
            try simp only [Act.put, List.setIfInBounds_toArray, List.set_cons_zero, List.set_cons_succ]
            refine Oy.AnyBut.take (i := 6) (v := ?_) rfl (by kernel_rfl) (by kernel_rfl) (fun _ _ _ h => h) (by kernel_rfl) (by kernel_rfl) (_root_.Or.inl ⟨by kernel_rfl, ?_⟩) hHeld ?_
            rotate_left
            · intro w0 hSw; (try dsimp only at hSw); go_simp; try with_reducible rfl
            try simp only [Act.put, List.setIfInBounds_toArray, List.set_cons_zero, List.set_cons_succ]
            refine Oy.AnyBut.take (i := 7) (v := ?_) rfl (by kernel_rfl) (by kernel_rfl) (fun _ _ _ h => h) (by kernel_rfl) (by kernel_rfl) (_root_.Or.inl ⟨by kernel_rfl, ?_⟩) hHeld ?_
            rotate_left
            · intro w0 hSw; (try dsimp only at hSw); go_simp; try with_reducible rfl
            try simp only [Act.put, List.setIfInBounds_toArray, List.set_cons_zero, List.set_cons_succ]
            refine Oy.AnyBut.ready (rs := [8]) (by kernel_rfl) (by simp) ?_
            refine Oy.ReadyBut.cons rfl (fun K hK => ?_) ?_
            · go_simp
              go_at_call 9
              refine (HSH.out _ (HTB.out.later (Gr.trans HG.out HG9.out))).mono ?_
              rintro y w10 ⟨rfl, hg10⟩
              have HG10 := Lib.hid (Gr.trans HG9.out hg10)
              clear hg10
              go_wp2_with fail
              refine hK.out _ _ (HKEEP.out _ HG10.out) ?_
              replace hHeld : (fun wz : World => At wz ⟨g6, 0, none⟩ (lpre d i S i)) _ := (HKEEP.out _ HG10.out)
              clear hK K
              try simp only [Act.put, List.setIfInBounds_toArray, List.set_cons_zero, List.set_cons_succ]
              refine Oy.AnyBut.take (i := 9) (v := ?_) rfl (by kernel_rfl) (by kernel_rfl) (fun _ _ _ h => h) (by kernel_rfl) (by kernel_rfl) (_root_.Or.inl ⟨by kernel_rfl, ?_⟩) hHeld ?_
              rotate_left
              · intro w0 hSw; (try dsimp only at hSw); go_simp; try with_reducible rfl
              try simp only [Act.put, List.setIfInBounds_toArray, List.set_cons_zero, List.set_cons_succ]
              refine Oy.AnyBut.ready (rs := [10]) (by kernel_rfl) (by simp) ?_
              refine Oy.ReadyBut.last rfl (fun K hK => ?_)
              go_simp
              refine hK.out _ _ ?_
              clear hK K
              try simp only [Act.put, List.setIfInBounds_toArray, List.set_cons_zero, List.set_cons_succ]
              refine Oy.AnyBut.done (by kernel_rfl) ?_ _
              clear hHeld
              go_wp2_with fail
              go_ret
              exact ⟨rfl, Gr.trans HG.out HG10.out⟩
            exact Oy.ReadyBut.nil
          exact Oy.ReadyBut.nil
        exact Oy.ReadyBut.nil
end Go.Proofs.YtblaimkcdhcclaaDoor
