/- add, sum, product, value. -/
import Derived.Test.YtaenjbemkeghgaaTrimd
import Derived.Laws.CopyOwn
namespace Op
set_option linter.unusedVariables false
theorem tz_nf {m : Int} {l p : List Int} (h : ∀ i, cf l i = cf p i % m) : tz l = nf m p := tz_cong (fun i => by rw [h i, cf_red])
end Op
namespace Go.Proofs.Ytaenjbemkeghgaa
open Go.RowKit
set_option linter.unusedVariables false

/-- What add writes. -/
def AddPost (g o : Nat) (m k : Int) (l b : List Int) (w : World) (e : Ending) (w' : World) : Prop :=
  ∃ pre, e = .returned (.tuple #[]) ∧ pre.length = b.length ∧ (∀ j, j < b.length → Op.cf pre j = (Op.cf l j + k * Op.cf b j) % m) ∧ U32 pre ∧ Upd g o pre w w'

set_option maxRecDepth 100000 in
set_option maxHeartbeats 2000000 in
theorem add_any (g o n cap : Nat) (m k : Int) (l b : List Int) (v : Value) (w : World) (hm : 1 ≤ m ∧ m ≤ 4294967295) (hk : 0 ≤ k ∧ k < 4294967296)
    (hr : ∃ cur, Rw w g cur ∧ o + n ≤ cur.size) (hl : U32 l) (hc : ∀ j, j < n → w.cell? ⟨g, o + j, none⟩ = some (.int .u32 (Op.cf l j))) (hcap : n ≤ cap) (hcap2 : cap ≤ 9223372036854775807)
    (hb : HasP w v b) (hv : 0 < b.length → v.ownBlock ≠ some g) (hlen : b.length ≤ n) :
    Calls Try.prog 67 #[.int .u32 m, .slice (some ⟨g, o, none⟩) n cap, .int .u32 k, v] w (AddPost g o m k l b w) := by
  have HM := Lib.hid hm
  have HK := Lib.hid hk
  have HL := Lib.hid hl
  have HC := Lib.hid hc
  have HR := Lib.hid hr
  obtain ⟨db, a, capb, rfl, b1, b2, cb⟩ := hb
  obtain ⟨len, hlenb⟩ : ∃ len, len = b.length := ⟨_, rfl⟩
  have hv : 0 < b.length → (Value.slice a b.length capb).ownBlock ≠ some g := hv
  have HV := Lib.hid hv
  rw [← hlenb] at b1 hlen ⊢
  have HLB := Lib.hid hlenb
  have HDB := Lib.hid db
  have HCB := Lib.hid cb
  clear hm hk hl hc hr hv hlenb db cb
  go_enter Try.func67, Try.ntmps67
  go_wp2_with fail
  go_loopw [12] (fun i wr => ∃ k' pre, i = .int .i64 (k' : Nat) ∧ k' ≤ len ∧ pre.length = k' ∧ (∀ j, j < k' → Op.cf pre j = (Op.cf l j + k * Op.cf b j) % m) ∧ U32 pre ∧ Upd g o pre w wr) (fun i _ => len - (intOf i).toNat)
  case atStart =>
    obtain ⟨cur, h1, h2⟩ := HR.out
    exact ⟨0, [], rfl, by omega, rfl, fun j hj => by omega, U32.nil, Upd.start h1 (by omega)⟩
  case round =>
    obtain ⟨k', pre, rfl, hk', hp, hpc, hpu, hu⟩ := hrel
    have HP := Lib.hid hp
    have HPC := Lib.hid hpc
    have HPU := Lib.hid hpu
    have HU := Lib.hid hu
    clear hp hpc hpu hu
    by_cases hlt : k' < len
    · have hjb : k' < b.length := by rw [← HLB.out]; exact hlt
      obtain ⟨gb, ob, rfl, c2⟩ := HCB.out k' hjb
      have c2 : wr.cell? ⟨gb, ob + k', none⟩ = _ := (HU.out.cell_other (p := ⟨gb, ob + k', none⟩) (fun e => HV.out (by omega) (by simp only [Value.ownBlock]; exact congrArg some e))).trans c2
      have c0 := HC.out k' (by omega)
      have c1 : wr.cell? ⟨g, o + k', none⟩ = some (.int .u32 (Op.cf l k')) := (HU.out.cell_out (.inr (by rw [HP.out]; omega))).trans c0
      have f1 : wr.frozen? ⟨g, o + k', none⟩ = false := HU.out.frozen _
      have hx := HL.out.at_ k'
      have hy := HDB.out.at_ k'
      have HC0 := Lib.hid c0
      obtain ⟨x, hxe⟩ : ∃ x, x = Op.cf l k' := ⟨_, rfl⟩
      obtain ⟨y, hye⟩ : ∃ y, y = Op.cf b k' := ⟨_, rfl⟩
      rw [← hxe] at c1 hx
      rw [← hye] at c2 hy
      have HX := Lib.hid hxe
      have HY := Lib.hid hye
      have HXB := Lib.hid hx
      have HYB := Lib.hid hy
      have i5 : (k' : Int) < (len : Int) := by omega
      have i6 : (k' : Int) < (n : Int) := by omega
      have i7 : (0 : Int) ≤ (k' : Int) := by omega
      have HJB := Lib.hid hjb
      clear hxe hye hx hy c0 hjb
      go_wp2_with (go_at_call 69; refine (plus_any m x k y _ HM.out HXB.out HK.out HYB.out).mono ?_; rintro e w' ⟨rfl, rfl⟩)
      go_roundw
      case rel => exact ⟨k' + 1, pre ++ [(x + k * y) % m], by go_num, by omega, by rw [List.length_append, HP.out]; rfl, fun j hj => by
          rw [Op.cf_append]
          by_cases h : j < pre.length
          · rw [if_pos h]; exact HPC.out j (by have := HP.out; omega)
          · rw [if_neg h]
            obtain rfl : j = k' := by have := HP.out; omega
            rw [HP.out, Nat.sub_self, HX.out, HY.out]; rfl, HPU.out.app (U32.one (by have a1 := emod_lo (x + k * y) m HM.out.1; have a2 := emod_hi (x + k * y) m HM.out.1; have := HM.out.2; omega)), HU.out.step HP.out HC0.out⟩
      case measure => simp [intOf]; omega
    · obtain rfl : k' = len := by omega
      go_wp2_with fail
      go_end0
      exact ⟨pre, rfl, by rw [HP.out, HLB.out], fun j hj => HPC.out j (by have := HLB.out; omega), HPU.out, HU.out⟩

/-- New numbers. -/
def NewP (l : List Int) (w : World) (e : Ending) (w' : World) : Prop :=
  ∃ a n c, e = .returned (.slice a n c) ∧ HasP w' (.slice a n c) l ∧ (∀ p, a = some p → w.heap.size ≤ p.block) ∧ Gr w w'
/-- Numbers as cells. -/
def pcells (l : List Int) : List Value := l.map (.int .u32 ·)
theorem pcells_at (l : List Int) (i : Nat) (hi : i < l.length) : (pcells l)[i]? = some (.int .u32 (Op.cf l i)) := by
  rw [← Op.cf_at]; simp [pcells, hi]
theorem pcells_len (l : List Int) : (pcells l).length = l.length := by simp [pcells]
theorem pcells_one (l : List Int) : ∀ v ∈ pcells l, v.oneCell' = true := by
  intro u hu; obtain ⟨x, _, rfl⟩ := List.mem_map.1 hu; rfl
theorem Rw.of_toList {W : World} {g : Nat} {l : List Value} (h : W.heap[g]? = some (.cells l.toArray 22 (0, 0))) : Rw W g l.toArray := h
theorem Row.splice {W : World} {g n : Nat} {a : List Int} (h : W.heap[g]? = some (.cells (Go.splice (zrow n).toList 0 (pcells a)).toArray 22 (0, 0))) (ha : U32 a) (hn : a.length ≤ n) : Row W g (a ++ List.replicate (n - a.length) 0) := by
  refine ⟨ha.app (fun x hx => by rw [List.eq_of_mem_replicate hx]; omega), _, h, ?_, fun j hj => ?_⟩
  · have hz : (zrow n).toList.length = n := by rw [Array.length_toList, zrow_size]
    rw [List.size_toArray, length_splice _ _ _ (by rw [pcells_len, hz]; omega), hz, List.length_append, List.length_replicate]; omega
  · rw [List.length_append, List.length_replicate] at hj
    rw [Go.splice, List.take_zero, List.nil_append, List.getElem?_toArray, Op.cf_append]
    by_cases h1 : j < a.length
    · rw [if_pos h1, List.getElem?_append_left (by rw [pcells_len]; exact h1), pcells_at a j h1]
    · rw [if_neg h1, List.getElem?_append_right (by rw [pcells_len]; omega), pcells_len, cf_rep, List.getElem?_drop, Array.getElem?_toList]
      exact zrow_at n _ (by rw [Nat.zero_add]; omega)
theorem zrow_heap (w : World) (n : Nat) : (w.alloc (.cells (zrow n) 22)).heap[w.heap.size]? = some (.cells (zrow n).toList.toArray 22 (0, 0)) := by
  rw [Array.toArray_toList]; exact Rw.new w _
theorem below_new (w : World) (o : Obj) : Below w.heap.size w (w.alloc o) := Gr.new w o
theorem cf_pad (a : List Int) (n i : Nat) : Op.cf (a ++ List.replicate n 0) i = Op.cf a i := by
  rw [Op.cf_append]
  split
  · rfl
  · rw [cf_rep, Op.cf_out (by omega)]
theorem addr_add {a : Option Addr} {g o j : Nat} (h : a = some ⟨g, o, none⟩) : ∀ ad, a = some ad → ad.add j = ⟨g, o + j, none⟩ := by
  intro ad e; rw [h] at e; cases e; unfold Addr.add; split <;> simp_all

set_option maxRecDepth 100000 in
set_option maxHeartbeats 1000000 in
theorem sum_any (m k : Int) (a b : List Int) (u v : Value) (w : World) (hm : 1 ≤ m ∧ m ≤ 4294967295) (hk : 0 ≤ k ∧ k < 4294967296) (ha : Op.Rs m a) (hu : HasP w u a) (hv : HasP w v b) (hla : a.length ≤ 100000) (hlb : b.length ≤ 100000) :
    Calls Try.prog 45 #[.int .u32 m, u, .int .u32 k, v] w (NewP (Op.nf m (Op.add a (Op.sc k b))) w) := by
  have HM := Lib.hid hm
  have HK := Lib.hid hk
  have HA := Lib.hid ha
  have HU := Lib.hid hu
  have HV := Lib.hid hv
  obtain ⟨da, ad, capa, rfl, a1, a2, ca⟩ := hu
  obtain ⟨db, bd, capb, rfl, b1, b2, cb⟩ := hv
  obtain ⟨la, hla'⟩ : ∃ la, la = a.length := ⟨_, rfl⟩
  obtain ⟨lb, hlb'⟩ : ∃ lb, lb = b.length := ⟨_, rfl⟩
  obtain ⟨n, hn⟩ : ∃ n, n = max la lb := ⟨_, rfl⟩
  rw [← hla'] at a1 hla HU ⊢
  rw [← hlb'] at b1 hlb HV ⊢
  have hn1 : la ≤ n := by omega
  have hn2 : lb ≤ n := by omega
  have hn3 : n ≤ 100000 := by omega
  have HMK := Lib.hid (fun (L : Int) (hL : L = n) => mk_row n L hL (by omega))
  have HLA := Lib.hid hla'
  have HLB := Lib.hid hlb'
  have HN := Lib.hid hn
  have HCA := Lib.hid ca
  have HDA := Lib.hid da
  have HDB := Lib.hid db
  clear hm hk ha ca cb da db hla' hlb' hn
  obtain ⟨i0, hi, hz0, hz1, hz2⟩ := info_parts infoU32
  have hsz : (Try.prog.info? 22).map (·.size) = some 1 := by rw [hi]; simp [hz1]
  obtain ⟨cs, hcs⟩ : ∃ cs, cs = pcells a := ⟨_, rfl⟩
  have HCS := Lib.hid hcs
  have hcl : cs.length = la := by rw [hcs, pcells_len, HLA.out]
  have hcl2 : cs.length = Nat.min la n := by rw [hcl]; exact (Nat.min_eq_left hn1).symm
  have hpos : ∀ W, Gr w W → 0 < cs.length → some (⟨w.heap.size, 0, none⟩ : Addr) = some ⟨w.heap.size, 0, none⟩ ∧ ∃ ad', ad = some ad' ∧ ∀ j v, cs[j]? = some v → W.cell? (ad'.add j) = some v := by
    intro W hW h0
    refine ⟨rfl, ?_⟩
    obtain ⟨g, o, e, _⟩ := HCA.out 0 (by rw [← HLA.out, ← hcl]; exact h0)
    refine ⟨_, e, fun j u hj => ?_⟩
    have hjl : j < a.length := by have := (List.getElem?_eq_some_iff.1 hj).1; rw [hcl, HLA.out] at this; exact this
    rw [hcs, pcells_at a j hjl] at hj
    obtain ⟨g', o', e', hc⟩ := HCA.out j hjl
    rw [e] at e'; cases e'
    have e2 : (⟨g, o, none⟩ : Addr).add j = ⟨g, o + j, none⟩ := addr_add rfl _ rfl
    rw [e2, hW.keeps hc]; exact hj
  have HPOS := Lib.hid hpos
  have HCL := Lib.hid hcl2
  have hfit : 0 + cs.length ≤ (zrow n).toList.length := by rw [hcl, Array.length_toList, zrow_size]; omega
  have h1c : ∀ v ∈ cs, v.oneCell' = true := by rw [hcs]; exact pcells_one a
  have H1C := Lib.hid h1c
  have HFIT := Lib.hid hfit
  clear hpos hcl hcl2 hcs h1c hfit
  have HC : (la : Int) < (lb : Int) ∨ ¬ (la : Int) < (lb : Int) := Classical.em _
  rcases HC with hc | hc
  case' inl => have hmk := HMK.out (lb : Int) (by have := HN.out; omega)
  case' inr => have hmk := HMK.out (la : Int) (by have := HN.out; omega)
  all_goals
    go_enter Try.func45, Try.ntmps45
    go_wp2_with (with_reducible refine wpList_copy_splice rfl (.tmp 16) (.tmp 17) _ _ rfl 22 Try.underlying23 hsz (some ⟨w.heap.size, 0, none⟩) ad n n la capa rfl rfl w.heap.size 0 (zrow n).toList 22 (zrow_heap w n) cs HCL.out (HPOS.out _ (Gr.new w _)) HFIT.out H1C.out w.heap.size w (below_new w _) (Nat.le_refl _) ?_; intro w2 HG2 hB2)
    have hrow : Row w2 w.heap.size (a ++ List.replicate (n - a.length) 0) := Row.splice (by rw [← HCS.out]; exact HG2.out) HDA.out (by rw [← HLA.out]; exact hn1)
    have HROW := Lib.hid hrow
    have HB2 := Lib.hid (show Gr w w2 from hB2)
    have hlt := hrow.lt
    have hplen : (a ++ List.replicate (n - a.length) 0).length = n := by rw [List.length_append, List.length_replicate, ← HLA.out]; omega
    have HPL := Lib.hid hplen
    clear hrow hB2 hplen
    refine (add_any w.heap.size 0 n n m k a b _ _ HM.out HK.out ?_ HDA.out ?_ (Nat.le_refl _) (by omega) (HV.out.later HB2.out) ?_ (by rw [← HLB.out]; exact hn2)).mono ?_
    · obtain ⟨_, cur, h1, h2, _⟩ := HROW.out
      exact ⟨cur, h1, by rw [HPL.out] at h2; omega⟩
    · intro j hj
      rw [Nat.zero_add, HROW.out.cell (by rw [HPL.out]; exact hj), cf_pad]
    · intro h0 e
      obtain ⟨bb, e2, hb3⟩ := HV.out.block h0
      rw [e2] at e
      have := Option.some.inj e
      omega
    rintro e w3 ⟨pre, rfl, hp1, hp2, hp3, hup⟩
    have hR3 := HROW.out.upd hup hp3 (by rw [HPL.out, hp1, ← HLB.out]; omega)
    have hplen : (put (a ++ List.replicate (n - a.length) 0) 0 pre).length = n := by rw [put_len (by rw [HPL.out, hp1, ← HLB.out]; omega), HPL.out]
    have hP3 := hR3.hasP (cap := n) (by rw [hplen]; omega) (by omega)
    rw [hplen] at hP3
    have hnf : Op.tz (put (a ++ List.replicate (n - a.length) 0) 0 pre) = Op.nf m (Op.add a (Op.sc k b)) := by
      apply Op.tz_nf
      intro i
      rw [cf_put (by rw [HPL.out, hp1, ← HLB.out]; omega), Op.cf_add, Op.cf_sc, cf_pad, hp1]
      by_cases h : i < b.length
      · rw [if_pos (by omega), Nat.sub_zero, hp2 i h]
      · rw [if_neg (by omega), Op.cf_out (l := b) (by omega), Int.mul_zero, Int.add_zero]
        have := Op.rs_cf (by have := HM.out.1; omega) HA.out i
        exact (Int.emod_eq_of_lt this.1 this.2).symm
    have HNF := Lib.hid hnf
    have HP3 := Lib.hid hP3
    have HG3 := Lib.hid (show Gr w w3 from hup.gr HB2.out (Nat.le_refl _))
    clear hR3 hplen hP3 hnf hup hp1 hp2 hp3
    go_wp2_with fail
    refine (trimmed_any _ _ _ _ _ HP3.out).mono ?_
    rintro e w4 ⟨rfl, rfl⟩
    go_wp2_with fail
    go_ret
    exact ⟨_, _, _, rfl, by rw [← HNF.out]; exact HP3.out.tz, fun p hp => by cases hp; exact Nat.le_refl _, HG3.out⟩
end Go.Proofs.Ytaenjbemkeghgaa
