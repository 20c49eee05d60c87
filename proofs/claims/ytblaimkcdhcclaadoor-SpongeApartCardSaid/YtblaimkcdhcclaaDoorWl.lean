/- List, of the reference. -/
import Derived.Test.YtblaimkcdhcclaaDoorWk
import Derived.Test.YtblaimkcdhcclaaDoorWz
namespace Go.Proofs.YtblaimkcdhcclaaDoor
open Go.RowKit Oz
set_option linter.unusedVariables false
set_option linter.unusedSimpArgs false
set_option maxRecDepth 100000 in
set_option maxHeartbeats 8000000 in
theorem rList_any (d n : Nat) (v : Value) (S : Nat → ByteArray) (w : World) (hd : d < 256) (hS : HasStr w v n S) (hsz : wsum S n ≤ 40000) : Calls Tryd.prog 18 #[.int .u8 (d : Nat), v] w (fun y w' => y = .returned (.string (spS (lstB d n S) 0 32)) ∧ Gr w w') := by
  obtain ⟨a, cap, rfl, hn1, hn2, hA⟩ := hS
  have HA := Lib.hid hA
  have hn := wsum_le S n
  have HSZ := Lib.hid hsz
  have hn3 : (n : Int) ≤ 40000 := by omega
  have hdw : (d : Int) = ((UInt8.ofNat d).toNat : Int) := by rw [UInt8.toNat_ofNat']; omega
  have HF0 := Lib.hid (rfour_any n (by omega))
  have HDG := Lib.hid (rDigest_any (lstB d n S) (by have h1 := lpre_len d n S n; show (lpre d n S n).toArray.size ≤ 200000; rw [List.size_toArray]; omega))
  have HO0 := Lib.hid (show OwnB (w.alloc (.cells #[.int .u8 (d : Int)] 5)) w.heap.size (.slice (some ⟨w.heap.size, 0, none⟩) 1 1) [UInt8.ofNat d] from OwnB.new1 w (UInt8.ofNat d) _ hdw _)
  have HG0 := Lib.hid (show Gr w (w.alloc (.cells #[.int .u8 (d : Int)] 5)) from Gr.new _ _)
  clear hA hdw hsz
  go_enter Tryd.func18, Tryd.ntmps18
  go_wp2_with (first | (go_at_call 29; refine (HF0.out _).mono ?_; rintro y w1 ⟨c1, rfl, hat1, hlt1, hg1⟩; (have HA1 := Lib.hid (show At w1 ⟨w.heap.size + 1, 0, none⟩ (f4 n) from by simpa using hat1)); (have HG1 := Lib.hid (Gr.trans HG0.out hg1)); (have HO1 := Lib.hid (HO0.out.later hg1)); clear hat1 hlt1 hg1) | (at_builtin; refine wpList_appB rfl (.tmp 8) (.tmp 11) rfl rfl w.heap.size (.slice (some ⟨w.heap.size, 0, none⟩) 1 1) [UInt8.ofNat d] rfl HO1.out ⟨_, 0, none⟩ c1 4 (f4 n) rfl rfl HA1.out (by simp [f4]) (by simp [f4]) HG1.out.size ?_; intro v2 w2 hown hgrow; (have HO2 := Lib.hid hown); (have HG2 := Lib.hid (show Gr w w2 from OwnB.grown HG1.out HO1.out hgrow (Nat.le_refl _))); clear hown hgrow))
  go_loopw [5, 6] (fun v5 v6 wr => ∃ i : Nat, v6 = .int .i64 (i : Nat) ∧ i ≤ n ∧ OwnB wr w.heap.size v5 (lpre d n S i) ∧ Gr w wr) (fun _ v6 _ => n - (intOf v6).toNat)
  case atStart => exact ⟨0, rfl, by omega, HO2.out, HG2.out⟩
  case round =>
    obtain ⟨i, rfl, hi, hown, hgr⟩ := hrel
    have HO := Lib.hid hown
    have HG := Lib.hid hgr
    have hcase : i < n ∨ ¬ i < n := Classical.em _
    rcases hcase with hc | hc
    · have hci : (i : Int) < (n : Int) := by omega
      obtain ⟨gl, ol, rfl, hcell⟩ := HA.out i hc
      have HKEEP := Lib.hid (fun wz (hz : Gr w wz) => show wz.cell? ⟨gl, ol + i, none⟩ = some (.string (S i)) from hz.keeps hcell)
      have h1 := wsum_mono S (show i + 1 ≤ n by omega)
      have h2 := lpre_len d n S i
      have h3 : wsum S (i + 1) = wsum S i + (S i).size + 1 := rfl
      have HLE := Lib.hid (show (lpre d n S i).length + 4 ≤ 900000 ∧ (S i).size ≤ 40000 from by have := HSZ.out; omega)
      obtain ⟨L, hL⟩ : ∃ L, L = (S i).size := ⟨_, rfl⟩
      have HL := Lib.hid hL
      have HF := Lib.hid (rfour_any L (by have := HLE.out; omega))
      have hLi : ((S i).size : Int) = (L : Int) := by omega
      obtain ⟨p, hp⟩ : ∃ p, p = lpre d n S i := ⟨_, rfl⟩
      rw [← hp] at HO HLE
      have HPN := Lib.hid (show lpre d n S (i + 1) = p ++ (f4 L ++ (S i).data.toList) from by rw [hp, hL]; rfl)
      have HGD := Lib.hid (show Gr w wr.drew from Below.drew hgr)
      have HOD := Lib.hid (show OwnB wr.drew w.heap.size u5 p from HO.out.later (Below.drew (Gr.refl wr)))
      clear hown hgr hcell h1 h2 h3 hL hp
      go_wp2_with fail
      refine Oy.region_but (fun wz => wz.cell? ⟨gl, ol + i, none⟩ = some (.string (S i))) 13 (by kernel_rfl) ?_
      have hHeld : (fun wz : World => wz.cell? ⟨gl, ol + i, none⟩ = some (.string (S i))) _ := (HKEEP.out _ HGD.out)
      show Oy.AnyBut _ _ _ _ _ _ 14 #[false, false, false, false, false, false, false, false, false, false, false, false, false, false] _ _
      refine Oy.AnyBut.take (i := 0) (v := ?_) rfl (by kernel_rfl) (by kernel_rfl) (fun _ _ _ h => h) (by kernel_rfl) (by kernel_rfl) (_root_.Or.inl ⟨by rfl, ?_⟩) hHeld ?_
      rotate_left
      · intro w0 hSw; (try dsimp only at hSw); go_simp; try with_reducible rfl
      try simp only [Act.put, List.setIfInBounds_toArray, List.set_cons_zero, List.set_cons_succ]
      refine Oy.AnyBut.take (i := 1) (v := ?_) rfl (by kernel_rfl) (by kernel_rfl) (fun _ _ _ h => h) (by kernel_rfl) (by kernel_rfl) (_root_.Or.inl ⟨by rfl, ?_⟩) hHeld ?_
      rotate_left
      · intro w0 hSw; (try dsimp only at hSw); go_simp; try with_reducible rfl
      try simp only [Act.put, List.setIfInBounds_toArray, List.set_cons_zero, List.set_cons_succ]
      refine Oy.AnyBut.take (i := 2) (v := ?_) rfl (by kernel_rfl) (by kernel_rfl) (fun _ _ _ h => h) (by kernel_rfl) (by kernel_rfl) (_root_.Or.inl ⟨by rfl, ?_⟩) hHeld ?_
      rotate_left
      · intro w0 hSw; (try dsimp only at hSw); go_simp; try with_reducible rfl
      try simp only [Act.put, List.setIfInBounds_toArray, List.set_cons_zero, List.set_cons_succ]
      refine Oy.AnyBut.take (i := 3) (v := ?_) rfl (by kernel_rfl) (by kernel_rfl) (fun _ _ _ h => h) (by kernel_rfl) (by kernel_rfl) (_root_.Or.inl ⟨by rfl, ?_⟩) hHeld ?_
      rotate_left
      · intro w0 hSw; (try dsimp only at hSw); go_simp; try with_reducible rfl
      try simp only [Act.put, List.setIfInBounds_toArray, List.set_cons_zero, List.set_cons_succ]
      refine Oy.AnyBut.take (i := 4) (v := ?_) rfl (by kernel_rfl) (by kernel_rfl) (fun _ _ _ h => h) (by kernel_rfl) (by kernel_rfl) (_root_.Or.inl ⟨by rfl, ?_⟩) hHeld ?_
      rotate_left
      · intro w0 hSw; (try dsimp only at hSw); go_simp; try with_reducible rfl
      try simp only [Act.put, List.setIfInBounds_toArray, List.set_cons_zero, List.set_cons_succ]
      refine Oy.AnyBut.take (i := 5) (v := ?_) rfl (by kernel_rfl) (by kernel_rfl) (fun _ _ _ h => h) (by kernel_rfl) (by kernel_rfl) (_root_.Or.inl ⟨by rfl, ?_⟩) hHeld ?_
      rotate_left
      · intro w0 hSw; (try dsimp only at hSw); go_simp; try with_reducible rfl
      try simp only [Act.put, List.setIfInBounds_toArray, List.set_cons_zero, List.set_cons_succ]
      refine Oy.AnyBut.take (i := 8) (v := ?_) rfl (by kernel_rfl) (by kernel_rfl) (fun _ _ _ h => h) (by kernel_rfl) (by kernel_rfl) (_root_.Or.inl ⟨by rfl, ?_⟩) hHeld ?_
      rotate_left
      · intro w0 hSw; (try dsimp only at hSw); go_simp; try with_reducible rfl
      try simp only [Act.put, List.setIfInBounds_toArray, List.set_cons_zero, List.set_cons_succ]
      refine Oy.AnyBut.take (i := 9) (v := ?_) rfl (by kernel_rfl) (by kernel_rfl) (fun _ _ _ h => h) (by kernel_rfl) (by kernel_rfl) (_root_.Or.inl ⟨by rfl, ?_⟩) hHeld ?_
      rotate_left
      · intro w0 hSw; (try dsimp only at hSw); go_simp; try with_reducible rfl
      try simp only [Act.put, List.setIfInBounds_toArray, List.set_cons_zero, List.set_cons_succ]
      refine Oy.AnyBut.take (i := 10) (v := ?_) rfl (by kernel_rfl) (by kernel_rfl) (fun _ _ _ h => h) (by kernel_rfl) (by kernel_rfl) (_root_.Or.inl ⟨by rfl, ?_⟩) hHeld ?_
      rotate_left
      · intro w0 hSw; (try dsimp only at hSw); go_simp; try with_reducible rfl
      try simp only [Act.put, List.setIfInBounds_toArray, List.set_cons_zero, List.set_cons_succ]
      refine Oy.AnyBut.take (i := 11) (v := ?_) rfl (by kernel_rfl) (by kernel_rfl) (fun _ _ _ h => h) (by kernel_rfl) (by kernel_rfl) (_root_.Or.inl ⟨by rfl, ?_⟩) hHeld ?_
      rotate_left
      · intro w0 hSw; (try dsimp only at hSw); go_simp; try with_reducible rfl
      try simp only [Act.put, List.setIfInBounds_toArray, List.set_cons_zero, List.set_cons_succ]
      refine Oy.AnyBut.ready (rs := [6]) (by kernel_rfl) (by simp) ?_
      refine Oy.ReadyBut.cons rfl (fun K hK => ?_) ?_
      · go_simp
        go_at_call 29
        refine (HF.out _).mono ?_
        rintro y w8 ⟨c8, rfl, hat8, hlt8, hg8⟩
        have HA8 := Lib.hid hat8
        have HG8 := Lib.hid (Gr.trans HGD.out hg8)
        have HO8 := Lib.hid (HOD.out.later hg8)
        clear hat8 hlt8 hg8
        go_wp2_with fail
        refine hK.out _ _ (HKEEP.out _ HG8.out) ?_
        replace hHeld : (fun wz : World => wz.cell? ⟨gl, ol + i, none⟩ = some (.string (S i))) _ := (HKEEP.out _ HG8.out)
        clear hK K
        try simp only [Act.put, List.setIfInBounds_toArray, List.set_cons_zero, List.set_cons_succ]
        refine Oy.AnyBut.ready (rs := [7]) (by kernel_rfl) (by simp) ?_
        refine Oy.ReadyBut.cons rfl (fun K hK => ?_) ?_
        · rw [if_pos (by rfl)]
          refine wp_appB (.tmp 19) (.tmp 25) rfl rfl w.heap.size u5 p rfl HO8.out ⟨_, 0, none⟩ c8 4 (f4 L) rfl rfl HA8.out (by simp [f4]) (by have := HLE.out; simp [f4]; omega) HG8.out.size ?_
          intro v9 w9 hown hgrow
          have HO9 := Lib.hid hown
          have HG9 := Lib.hid (show Gr w w9 from OwnB.grown HG8.out HO8.out hgrow (Nat.le_refl _))
          clear hown hgrow
          refine hK.out _ _ (HKEEP.out _ HG9.out) ?_
          replace hHeld : (fun wz : World => wz.cell? ⟨gl, ol + i, none⟩ = some (.string (S i))) _ := (HKEEP.out _ HG9.out)
          clear hK K
          try simp only [Act.put, List.setIfInBounds_toArray, List.set_cons_zero, List.set_cons_succ]
          refine Oy.AnyBut.ready (rs := [12]) (by kernel_rfl) (by simp) ?_
          refine Oy.ReadyBut.cons rfl (fun K hK => ?_) ?_
          · rw [if_pos (by rfl)]
            refine wp_appS (.tmp 26) (.tmp 30) rfl rfl w.heap.size v9 (p ++ f4 L) rfl HO9.out (by simp [f4]) (S i) rfl (by have := HLE.out; simp [f4]; omega) HG9.out.size ?_
            intro v10 w10 hown hgrow
            have HO10 := Lib.hid hown
            have HG10 := Lib.hid (show Gr w w10 from OwnB.grown HG9.out HO9.out hgrow (Nat.le_refl _))
            clear hown hgrow
            refine hK.out _ _ (HKEEP.out _ HG10.out) ?_
            replace hHeld : (fun wz : World => wz.cell? ⟨gl, ol + i, none⟩ = some (.string (S i))) _ := (HKEEP.out _ HG10.out)
            clear hK K
            try simp only [Act.put, List.setIfInBounds_toArray, List.set_cons_zero, List.set_cons_succ]
            refine Oy.AnyBut.ready (rs := [13]) (by kernel_rfl) (by simp) ?_
            refine Oy.ReadyBut.last rfl (fun K hK => ?_)
            go_simp
            refine hK.out _ _ ?_
            clear hK K
            try simp only [Act.put, List.setIfInBounds_toArray, List.set_cons_zero, List.set_cons_succ]
            refine Oy.AnyBut.done (by kernel_rfl) ?_ _
            clear hHeld
            go_wp2_with fail
            go_roundw
            case rel => exact ⟨i + 1, by simp, by omega, by rw [HPN.out, ← List.append_assoc]; exact HO10.out, HG10.out⟩
            case measure => simp [intOf]; omega
          exact Oy.ReadyBut.nil
        exact Oy.ReadyBut.nil
      exact Oy.ReadyBut.nil
    · obtain rfl : i = n := by omega
      have hci : ¬ (i : Int) < (i : Int) := by omega
      obtain ⟨g6, c6, rfl, _, _, _, _, hat⟩ := hown.row (lpre_pos d i S i)
      have hst := run_convert_bytes_back (P := Tryd.prog) wr 41 9 5 ⟨g6, 0, none⟩ c6 (lpre d i S i) Tryd.underlying41 Tryd.underlying5 Tryd.underlying9 (fun j hj => hat j _ (List.getElem?_eq_getElem hj))
      rw [show (⟨(lpre d i S i).toArray⟩ : ByteArray) = lstB d i S from rfl] at hst
      obtain ⟨R, hR⟩ : ∃ R, R = lstB d i S := ⟨_, rfl⟩
      rw [← hR] at hst HDG
      obtain ⟨D, hD⟩ : ∃ D, D = (lpre d i S i).length := ⟨_, rfl⟩
      rw [← hD] at hst ⊢
      have HR := Lib.hid hR
      clear hown hgr hat hR hD
      go_wp2_with (go_at_call 14; refine (HDG.out _).mono ?_; rintro y w9 ⟨rfl, hg9⟩)
      go_ret
      exact ⟨by rw [HR.out]; rfl, Gr.trans HG.out hg9⟩
end Go.Proofs.YtblaimkcdhcclaaDoor
