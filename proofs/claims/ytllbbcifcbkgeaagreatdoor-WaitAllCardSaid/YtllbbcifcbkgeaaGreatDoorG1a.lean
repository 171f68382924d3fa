/- Laws and walks. -/
import Derived.Test.YtllbbcifcbkgeaaGreatDoorF28a
import Derived.Test.YtllbbcifcbkgeaaGreatDoorFba
import Derived.SizedLaws
import Derived.Test.YtllbbcifcbkgeaaGreatDoorF31a
import Derived.Test.YtllbbcifcbkgeaaGreatDoorF13a
set_option maxHeartbeats 16000000
set_option maxRecDepth 100000
namespace Go.Proofs.YtllbbcifcbkgeaaGreatDoor.Sh
open Go.RowKit
theorem at_right (m : MMsg) (A : Option Addr) (c : Nat) : (m.at A c).right ↔ m.right := by
 show (m.at A c).may /\ _ ↔ _
 rw [at_may]
 exact Iff.rfl
theorem strm_bare (L : List MMsg) (i : Nat) : strm (L.map MMsg.bare) i = (strm L i).map (Prod.map MMsg.bare id) := by
 rw [strm, strm, List.zipIdx_map, List.filter_map]
 rfl
theorem cnt_bare (L : List MMsg) (i : Nat) : cnt (L.map MMsg.bare) i = cnt L i := by
 rw [cnt, strm_bare, List.length_map]
 rfl
theorem kn_bare (L : List MMsg) : kn (L.map MMsg.bare) = kn L := List.map_congr_left fun i _ => cnt_bare L i
theorem ahd_bare (L : List MMsg) (i : Nat) : ahd (L.map MMsg.bare) i = ahd L i := by
 rw [ahd, strm_bare, List.getLast?_map, ahd]
 cases (strm L i).getLast? <;> rfl
theorem chk_bare (n : Nat) (L : List MMsg) (m : MMsg) : chk n (L.map MMsg.bare) m.bare = chk n L m := by
 have h1 : m.bare.may ↔ m.may := at_may m none 0
 have h2 : m.bare.right ↔ m.right := at_right m none 0
 by_cases a : m.may /\ nms n m = true
 ·by_cases b : m.right
  ·rw [chk, if_pos (show m.bare.may /\ nms n m.bare = true from ⟨h1.2 a.1, a.2⟩), if_pos (h2.2 b), chk, if_pos a, if_pos b, cnt_bare, ahd_bare, kn_bare]
   rfl
  ·rw [chk, if_pos (show m.bare.may /\ nms n m.bare = true from ⟨h1.2 a.1, a.2⟩), if_neg (fun x => b (h2.1 x)), chk, if_pos a, if_neg b]
 ·rw [chk, if_neg (fun x => a ⟨h1.1 x.1, x.2⟩), chk, if_neg a]
theorem chk_same {n : Nat} {L L' : List MMsg} {m m' : MMsg} (hL : L.map MMsg.bare = L'.map MMsg.bare) (hm : m.bare = m'.bare) : chk n L m = chk n L' m' := by
 rw [<- chk_bare n L m, hL, hm, chk_bare]
theorem getD_set {α : Type} (l : List α) (o k : Nat) (x d : α) (h : o < l.length) : (l.set o x).getD k d = if o = k then x else l.getD k d := by
 simp only [List.getD_eq_getElem?_getD, List.getElem?_set]
 by_cases e : o = k
 ·subst e; simp [h]
 ·simp [e]
theorem mix_getD (a c : List Nat) {k : Nat} (hk : k < 11) : (mix a c 11).getD k 0 = max (a.getD k 0) (c.getD k 0) := by
 simp [mix, List.getD_eq_getElem?_getD, hk]
theorem blw_no {a b : List Nat} (ha : a.length = 11) (hb : b.length = 11) (h : ∀ k, k < 11 -> b.getD k 0 <= a.getD k 0) : blw a b = false := by
 cases e : blw a b with
 | false => rfl
 | true =>
  obtain ⟨j, x, y, h1, h2, h3⟩ := (blw_true ha hb).1 e
  have hj := (List.getElem?_eq_some_iff.1 h1).1
  have := h j (by omega)
  rw [List.getD_eq_getElem?_getD, List.getD_eq_getElem?_getD, h1, h2] at this
  simp at this; omega
theorem blw_le {a b : List Nat} (ha : a.length = 11) (hb : b.length = 11) (h : blw a b = false) {k : Nat} (hk : k < 11) : b.getD k 0 <= a.getD k 0 := by
 have h1 : a[k]? = some (a.getD k 0) := getD_some (by omega)
 have h2 : b[k]? = some (b.getD k 0) := getD_some (by omega)
 refine Nat.le_of_not_lt fun hl => ?_
 have := (blw_true ha hb).2 ⟨k, _, _, h1, h2, hl⟩
 rw [h] at this
 cases this
theorem kn_getD (L : List MMsg) {k : Nat} (hk : k < 11) : (kn L).getD k 0 = cnt L k := by rw [List.getD_eq_getElem?_getD, kn_get L hk]; rfl
theorem ahd_snoc (L : List MMsg) (m : MMsg) (i : Nat) : ahd (L ++ [m]) i = if m.origin = (i : Int) + 1 then m.deps else ahd L i := by
 rw [ahd, strm_snoc]
 by_cases h : m.origin = (i : Int) + 1
 ·simp [h]
 ·simp [h, ahd]
theorem z11_getD (k : Nat) : z11.getD k 0 = 0 := by
 rw [List.getD_eq_getElem?_getD, z11, List.getElem?_replicate]
 split <;> rfl
theorem aBody_qs (x : MAct) (n : Nat) (hn : 1 <= n) : ∀ p ∈ (aBody x n).qs, p.1 <= (n : Int) := by
 have h0 : (aBase x).qs = [] := rfl
 have h1 : ∀ p ∈ aQs x n, p.1 <= (n : Int) := fun p hp => by
  rw [aQs] at hp
  rcases List.mem_cons.1 hp with rfl | hp
  ·show (1 : Int) <= n; omega
  ·obtain ⟨i, hi, rfl⟩ := List.mem_map.1 hp
   have := List.mem_range.1 hi
   show ((i + 2 : Nat) : Int) <= n
   omega
 intro p hp
 rw [aBody] at hp
 split at hp <;> first | exact h1 p hp | (rw [h0] at hp; cases hp) | cases hp
structure MWorld.Inv (S : MWorld) (n : Nat) : Prop where
 org : ∀ m ∈ S.all, m.Wf /\ 1 <= m.origin /\ m.origin <= (n : Int)
 le : ∀ o k, o < n -> k < 11 -> (S.ks.getD o []).getD k 0 <= cnt S.all k
 self : ∀ o, o < n -> (S.ks.getD o []).getD o 0 = cnt S.all o
 up : ∀ o k, o < n -> k < 11 -> (ahd S.all o).getD k 0 <= (S.ks.getD o []).getD k 0
 num : ∀ m ∈ S.all, 1 <= m.number /\ m.number <= cnt S.all m.oi
 clo : ∀ o m, o < n -> m ∈ S.all -> m.number <= (S.ks.getD o []).getD m.oi 0 -> ∀ k, k < 11 -> m.deps.getD k 0 <= (S.ks.getD o []).getD k 0
 good : ∀ i m, S.all[i]? = some m -> chk n (S.all.take i) m = 0
theorem inv_zero (n : Nat) : (acted n []).Inv n := by
 have hk : ∀ o, o < n -> ((acted n []).ks.getD o []) = z11 := fun o ho => by
  rw [acted, List.foldl_nil]
  show (List.replicate n z11).getD o [] = z11
  rw [List.getD_eq_getElem?_getD, List.getElem?_replicate, if_pos ho]; rfl
 have ha : (acted n []).all = [] := rfl
 refine ⟨fun m hm => ?_, fun o k ho _ => ?_, fun o ho => ?_, fun o k ho hk' => ?_, fun m hm => ?_, fun o m _ hm => ?_, fun i m hm => ?_⟩
 ·rw [ha] at hm; cases hm
 ·rw [hk o ho, z11_getD]; exact Nat.zero_le _
 ·rw [hk o ho, z11_getD]; rfl
 ·rw [hk o ho, ha]; exact Nat.le_refl _
 ·rw [ha] at hm; cases hm
 ·rw [ha] at hm; cases hm
 ·rw [ha] at hm; simp at hm
theorem MWorld.Inv.meet {S : MWorld} {n i o j : Nat} (hk : S.Ok n i) (h : S.Inv n) (ho : o < n) (hj : j < n) : MWorld.Inv { S with ks := S.ks.set o (mix (S.ks.getD o []) (S.ks.getD j []) 11) } n := by
 have e : ∀ p, (S.ks.set o (mix (S.ks.getD o []) (S.ks.getD j []) 11)).getD p [] = if o = p then mix (S.ks.getD o []) (S.ks.getD j []) 11 else S.ks.getD p [] := fun p => getD_set _ _ _ _ _ (by rw [hk.len]; exact ho)
 refine ⟨h.org, fun p k hp hk' => ?_, fun p hp => ?_, fun p k hp hk' => ?_, h.num, fun p m hp hm hle k hk' => ?_, h.good⟩
 ·show ((S.ks.set o _).getD p []).getD k 0 <= cnt S.all k
  rw [e p]
  by_cases c : o = p
  ·rw [if_pos c, mix_getD _ _ hk']
   have := h.le o k ho hk'; have := h.le j k hj hk'
   omega
  ·rw [if_neg c]; exact h.le p k hp hk'
 ·show ((S.ks.set o _).getD p []).getD p 0 = cnt S.all p
  rw [e p]
  by_cases c : o = p
  ·have h11 : p < 11 \/ 11 <= p := by omega
   rw [if_pos c]
   subst c
   have hs := h.self o ho
   rcases h11 with h11 | h11
   ·rw [mix_getD _ _ h11]
    have := h.le j o hj h11
    omega
   ·rw [List.getD_eq_getElem?_getD, List.getElem?_eq_none (by rw [mix_length]; exact h11), <- hs, List.getD_eq_getElem?_getD, List.getElem?_eq_none (by have := (hk.row ho).2.1; omega)]
  ·rw [if_neg c]; exact h.self p hp
 ·show (ahd S.all p).getD k 0 <= ((S.ks.set o _).getD p []).getD k 0
  rw [e p]
  by_cases c : o = p
  ·rw [if_pos c, mix_getD _ _ hk']
   have := h.up p k hp hk'
   subst c
   omega
  ·rw [if_neg c]; exact h.up p k hp hk'
 ·revert hle
  show m.number <= ((S.ks.set o _).getD p []).getD m.oi 0 -> m.deps.getD k 0 <= ((S.ks.set o _).getD p []).getD k 0
  rw [e p]
  by_cases c : o = p
  ·rw [if_pos c, mix_getD _ _ hk']
   intro hle
   have h1 := (h.num m hm).1
   have h11 : m.oi < 11 := by
    refine Nat.lt_of_not_le fun hx => ?_
    rw [List.getD_eq_getElem?_getD, List.getElem?_eq_none (by rw [mix_length]; exact hx)] at hle
    simp at hle; omega
   rw [mix_getD _ _ h11] at hle
   rcases Nat.lt_or_ge ((S.ks.getD o []).getD m.oi 0) m.number with g | g
   ·have := h.clo j m hj hm (by omega) k hk'; omega
   ·have := h.clo o m ho hm g k hk'; omega
  ·rw [if_neg c]; exact fun hle => h.clo p m hp hm hle k hk'
theorem tagM_of {m : MMsg} (h : m.may) : tagM m = { m with tag := numTag m.origin m.number (msgB m) } := if_pos h
theorem tagM_right {m : MMsg} (h : m.may) : (tagM m).right := by
 rw [tagM_of h]
 exact ⟨h, rfl⟩
theorem MWorld.Inv.say {S : MWorld} {n i o : Nat} (hn : n <= 11) (hk : S.Ok n i) (h : S.Inv n) (ho : o < n) {M : MMsg} (hy : M.may) (hw : M.Wf) (ho' : M.origin = (o : Int) + 1) (hnum : M.number = (S.ks.getD o []).getD o 0 + 1) (hd : M.deps = S.ks.getD o []) (hq : ∀ p ∈ M.body.qs, p.1 <= (n : Int)) :
  MWorld.Inv ⟨S.ks.set o ((S.ks.getD o []).set o ((S.ks.getD o []).getD o 0 + 1)), S.all ++ [tagM M]⟩ n := by
 have hT := tagM_of hy
 have hTo : (tagM M).origin = (o : Int) + 1 := by rw [hT]; exact ho'
 have hTn : (tagM M).number = (S.ks.getD o []).getD o 0 + 1 := by rw [hT]; exact hnum
 have hTd : (tagM M).deps = S.ks.getD o [] := by rw [hT]; exact hd
 have hTi : (tagM M).oi = o := oi_of hTo
 have hTw : (tagM M).Wf := tagM_wf hw
 obtain ⟨_, hl, _⟩ := hk.row ho
 have e : ∀ p, (S.ks.set o ((S.ks.getD o []).set o ((S.ks.getD o []).getD o 0 + 1))).getD p [] = if o = p then (S.ks.getD o []).set o ((S.ks.getD o []).getD o 0 + 1) else S.ks.getD p [] := fun p => getD_set _ _ _ _ _ (by rw [hk.len]; exact ho)
 have e2 : ∀ k, ((S.ks.getD o []).set o ((S.ks.getD o []).getD o 0 + 1)).getD k 0 = if o = k then (S.ks.getD o []).getD o 0 + 1 else (S.ks.getD o []).getD k 0 := fun k => getD_set _ _ _ _ _ (by omega)
 have c1 : ∀ k, cnt (S.all ++ [tagM M]) k = cnt S.all k + if o = k then 1 else 0 := fun k => by
  rw [cnt_snoc, hTo]
  congr 1
  by_cases c : o = k
  ·rw [if_pos c, if_pos (by omega)]
  ·rw [if_neg c, if_neg (by omega)]
 have a1 : ∀ k, ahd (S.all ++ [tagM M]) k = if o = k then S.ks.getD o [] else ahd S.all k := fun k => by
  rw [ahd_snoc, hTo, hTd]
  by_cases c : o = k
  ·rw [if_pos c, if_pos (by omega)]
  ·rw [if_neg c, if_neg (by omega)]
 have hs := h.self o ho
 have hz : ∀ k, n <= k -> cnt S.all k = 0 := fun k hk' => by
  rw [cnt, List.length_eq_zero_iff, strm, List.filter_eq_nil_iff]
  intro t ht hx
  have h1 := of_decide_eq_true hx
  have hm := List.mem_zipIdx ht
  have := h.org t.1 (by simp at hm; rw [hm.2]; exact List.getElem_mem _)
  omega
 refine ⟨fun m hm => ?_, fun p k hp hk' => ?_, fun p hp => ?_, fun p k hp hk' => ?_, fun m hm => ?_, fun p m hp hm hle k hk' => ?_, fun q m hq' => ?_⟩
 ·rcases List.mem_append.1 hm with hm | hm
  ·exact h.org m hm
  ·rw [List.mem_singleton.1 hm]; exact ⟨hTw, by omega, by omega⟩
 ·show ((S.ks.set o _).getD p []).getD k 0 <= cnt (S.all ++ [tagM M]) k
  rw [e p, c1]
  have := h.le p k hp hk'
  by_cases c : o = p
  ·rw [if_pos c, e2]
   subst c
   by_cases c2 : o = k
   ·rw [if_pos c2, if_pos c2, hs, c2]; exact Nat.le_refl _
   ·rw [if_neg c2, if_neg c2]; exact this
  ·rw [if_neg c]; omega
 ·show ((S.ks.set o _).getD p []).getD p 0 = cnt (S.all ++ [tagM M]) p
  rw [e p, c1]
  by_cases c : o = p
  ·rw [if_pos c, e2, if_pos c, if_pos c, hs, c]
  ·rw [if_neg c, if_neg c]; exact h.self p hp
 ·show (ahd (S.all ++ [tagM M]) p).getD k 0 <= ((S.ks.set o _).getD p []).getD k 0
  rw [e p, a1]
  by_cases c : o = p
  ·rw [if_pos c, if_pos c, e2]
   by_cases c2 : o = k
   ·rw [if_pos c2, c2]; exact Nat.le_succ _
   ·rw [if_neg c2]; exact Nat.le_refl _
  ·rw [if_neg c, if_neg c]; exact h.up p k hp hk'
 ·show 1 <= m.number /\ m.number <= cnt (S.all ++ [tagM M]) m.oi
  rw [c1]
  rcases List.mem_append.1 hm with hm | hm
  ·have := h.num m hm; omega
  ·rw [List.mem_singleton.1 hm, hTn, hTi, if_pos rfl, hs]; omega
 ·revert hle
  show m.number <= ((S.ks.set o _).getD p []).getD m.oi 0 -> m.deps.getD k 0 <= ((S.ks.set o _).getD p []).getD k 0
  rw [e p]
  rcases List.mem_append.1 hm with hm | hm
  ·by_cases c : o = p
   ·rw [if_pos c, e2, e2]
    intro hle
    have hn2 := h.num m hm
    have g : m.number <= (S.ks.getD o []).getD m.oi 0 := by
     by_cases c3 : o = m.oi
     ·rw [<- c3, hs, c3]; exact hn2.2
     ·rw [if_neg c3] at hle; exact hle
    have := h.clo o m ho hm g k hk'
    by_cases c2 : o = k
    ·rw [if_pos c2]; subst c2; omega
    ·rw [if_neg c2]; exact this
   ·rw [if_neg c]; exact fun hle => h.clo p m hp hm hle k hk'
  ·rw [List.mem_singleton.1 hm, hTn, hTi, hTd]
   by_cases c : o = p
   ·rw [if_pos c, e2, e2]
    intro _
    by_cases c2 : o = k
    ·rw [if_pos c2, c2]; exact Nat.le_succ _
    ·rw [if_neg c2]; exact Nat.le_refl _
   ·rw [if_neg c]
    intro hle
    have := h.le p o hp (by omega)
    omega
 ·show chk n ((S.all ++ [tagM M]).take q) m = 0
  have hq'' : (S.all ++ [tagM M])[q]? = some m := hq'
  rcases Nat.lt_trichotomy q S.all.length with hl' | hl' | hl'
  ·rw [List.getElem?_append_left hl'] at hq''
   rw [List.take_append_of_le_length (by omega)]
   exact h.good q m hq''
  ·rw [hl', List.getElem?_append_right (Nat.le_refl _), Nat.sub_self] at hq''
   have hm : m = tagM M := by simpa using hq''.symm
   rw [hm, hl', List.take_append_of_le_length (Nat.le_refl _), List.take_length]
   have hr : (tagM M).right := tagM_right hy
   have hnm : nms n (tagM M) = true := by
    have g1 : ((tagM M).body.qs.any fun p => decide (p.1 > (n : Int))) = false := by
     rw [hT, List.any_eq_false]
     intro p hp hx
     have := hq p hp
     have := of_decide_eq_true hx
     omega
    rw [nms_d (by omega) g1, Bool.not_eq_true', List.any_eq_false, hTd]
    intro y hy hx
    have hy0 := of_decide_eq_true hx
    obtain ⟨k, hk1, hk2⟩ := List.mem_iff_getElem.1 hy
    have hkl : n + k < 11 := by rw [List.length_drop, hl] at hk1; omega
    rw [List.getElem_drop] at hk2
    have h3 := h.le o (n + k) ho hkl
    rw [hz (n + k) (by omega), List.getD_eq_getElem?_getD, List.getElem?_eq_getElem (by omega), hk2] at h3
    simp at h3; omega
   have hnx : (tagM M).number = cnt S.all (tagM M).oi + 1 := by rw [hTn, hTi, hs]
   have := chk_next (hr.1) hnm hr hnx (blw_no (by rw [hTd]; exact hl) (ahd_length (fun m hm => (h.org m hm).1) _) (fun k hk' => by rw [hTi, hTd]; exact h.up o k ho hk')) false
    (blw_no (kn_length _) (by rw [hTd]; exact hl) (fun k hk' => by rw [kn_getD _ hk', hTd]; exact h.le o k ho hk'))
   rw [this]; rfl
  ·rw [List.getElem?_eq_none (by simp; omega)] at hq''; cases hq''
theorem inv_acted (n : Nat) (hn : 1 <= n) (hn11 : n <= 11) (l : List MAct) : (acted n l).Inv n := by
 induction l using snoc_rec with
 | nil => exact inv_zero n
 | snoc l x ih =>
  have hk := ok_acted n hn l l.length (Nat.le_refl _)
  rw [List.take_length] at hk
  have ho : x.who % n < n := Nat.mod_lt _ hn
  have hj : x.other % n < n := Nat.mod_lt _ hn
  rw [acted_snoc, stepA]
  by_cases hm : x.meet
  ·rw [if_pos hm]; exact ih.meet hk ho hj
  ·rw [if_neg hm]
   by_cases hy : (mOf n (acted n l) x).may
   ·rw [if_pos hy]
    exact ih.say hn11 hk ho hy (mOf_wf n _ x hk hn (aBody_wf x n)) rfl rfl rfl (aBody_qs x n hn)
   ·rw [if_neg hy]; exact ih
theorem world_chk {n : Nat} (hn : 1 <= n) (hn11 : n <= 11) {l : List MAct} {all : List MMsg} (hb : all.map MMsg.bare = (acted n l).all.map MMsg.bare) {i : Nat} {m : MMsg} (hi : all[i]? = some m) {L : List MMsg} (hL : L.map MMsg.bare = (all.take i).map MMsg.bare) : chk n L m = 0 := by
 have h1 : ((acted n l).all.map MMsg.bare)[i]? = some m.bare := by rw [<- hb, List.getElem?_map, hi]; rfl
 rw [List.getElem?_map, Option.map_eq_some_iff] at h1
 obtain ⟨m', hm', e⟩ := h1
 rw [chk_same (L' := (acted n l).all.take i) (m' := m') (by rw [hL, List.map_take, hb, List.map_take]) e.symm]
 exact (inv_acted n hn hn11 l).good i m' hm'
open Go.RowKit
open Go.ChangeShapes Go.WideShapes Go.Deep
theorem Tryz.cc23 : Tryz.prog.cellsOf 23 = 1 := by kernel_rfl
theorem Tryz.cc5 : Tryz.prog.cellsOf 5 = 1 := by kernel_rfl
theorem Tryz.cc4 : Tryz.prog.cellsOf 4 = 1 := by kernel_rfl
theorem Tryz.cc87 : Tryz.prog.cellsOf 87 = 8 := by kernel_rfl
theorem Tryz.bytes87 : Tryz.prog.bytesOf 87 = 32 := by kernel_rfl
section
variable {H : Type} {enc : TypeId × Value -> H} {W : World} {base : Nat} {spare : Nat -> Bool} {held : Bool} {n : Nat} {cs : List Value} {y : DataW H × List MemPlace}
theorem octs_in (h : DataW.trod enc Tryz.prog W base spare held n 23 cs = some y) : ∃ (A : Option Addr) (c : Nat) (qs : List UInt8), cs = [.slice A qs.length c] /\ Oc W A qs := by
 rcases open_slice Tryz.underlying23 h with ⟨hcs, _⟩ | ⟨a, len, cap, m, k, D, Pl, hcs, _, hlc, hcm, hm, _, hx⟩
 ·exact ⟨none, 0, [], hcs, fun h => absurd h (by simp)⟩
 ·rw [Tryz.cc5] at hx
  have hnm : len <= m := by rw [hm]; split <;> omega
  have hx' : ∀ i, i < len -> ∃ x : UInt8, W.cell? ((a.add (i * 1)).add 0) = some (.int .u8 (x.toNat : Int)) := by
   intro i hi
   obtain ⟨cs', hc, ht⟩ := hx i (by omega)
   obtain ⟨hl, _, hcell⟩ := World.cells?_some hc
   obtain ⟨z, rfl, hw⟩ := int_of Tryz.underlying5 ht
   refine ⟨UInt8.ofNat z.toNat, ?_⟩
   rw [<- u8_of_wf hw, hcell 0 (by decide)]
   rfl
  obtain ⟨F, hF⟩ := choose_prs hx'
  refine ⟨some a, cap, (List.range len).map F, by simpa using hcs, fun hp => ?_⟩
  obtain ⟨b, off, spot⟩ := a
  have h00 := hF 0 (by simpa using hp)
  have hspot : spot = none := by simpa [Addr.add] using World.cell?_spot h00
  subst hspot
  refine ⟨b, off, rfl, ?_, fun j u hu => ?_⟩
  ·rw [add_plain2] at h00
   exact World.block_lt_of_cell? W _ h00
  ·rw [List.getElem?_map] at hu
   obtain ⟨z, hz1, rfl⟩ := Option.map_eq_some_iff.1 hu
   obtain ⟨hj, rfl⟩ := List.getElem?_eq_some_iff.1 hz1
   simp at hj
   have h0 := hF j hj
   rw [add_plain2, Nat.mul_one, Nat.add_zero] at h0
   simpa using h0
theorem n8_of {z : Int} (h : (Lit.int .u8 z).wf = true) : z = ((z.toNat : Nat) : Int) /\ z.toNat < 256 := by
 simp [Lit.wf, IntKind.min, IntKind.max, IntKind.signed, IntKind.bits] at h
 omega
theorem act_cells (h : DataW.trod enc Tryz.prog W base spare held n 87 cs = some y) : ∃ x : MAct, cs = actC x /\ x.Ok /\ Oc W x.qa x.q := by
 obtain ⟨ys, k, _, _, hlen, hys, hf⟩ := DataW.trod_struct Tryz.underlying87 h
 rw [Tryz.cc87] at hlen
 have hy : ys.length = 8 := hys
 have f0 : DataW.trod enc Tryz.prog W base spare held k 5 ((cs.drop 0).take (Tryz.prog.cellsOf 5)) = ys[0]? := hf 0 _ rfl
 rw [Tryz.cc5] at f0
 obtain ⟨_, e0⟩ := some_at (by omega) f0
 have f1 : DataW.trod enc Tryz.prog W base spare held k 5 ((cs.drop 1).take (Tryz.prog.cellsOf 5)) = ys[1]? := hf 1 _ rfl
 rw [Tryz.cc5] at f1
 obtain ⟨_, e1⟩ := some_at (by omega) f1
 have f2 : DataW.trod enc Tryz.prog W base spare held k 4 ((cs.drop 2).take (Tryz.prog.cellsOf 4)) = ys[2]? := hf 2 _ rfl
 rw [Tryz.cc4] at f2
 obtain ⟨_, e2⟩ := some_at (by omega) f2
 have f3 : DataW.trod enc Tryz.prog W base spare held k 5 ((cs.drop 3).take (Tryz.prog.cellsOf 5)) = ys[3]? := hf 3 _ rfl
 rw [Tryz.cc5] at f3
 obtain ⟨_, e3⟩ := some_at (by omega) f3
 have f4 : DataW.trod enc Tryz.prog W base spare held k 5 ((cs.drop 4).take (Tryz.prog.cellsOf 5)) = ys[4]? := hf 4 _ rfl
 rw [Tryz.cc5] at f4
 obtain ⟨_, e4⟩ := some_at (by omega) f4
 have f5 : DataW.trod enc Tryz.prog W base spare held k 5 ((cs.drop 5).take (Tryz.prog.cellsOf 5)) = ys[5]? := hf 5 _ rfl
 rw [Tryz.cc5] at f5
 obtain ⟨_, e5⟩ := some_at (by omega) f5
 have f6 : DataW.trod enc Tryz.prog W base spare held k 5 ((cs.drop 6).take (Tryz.prog.cellsOf 5)) = ys[6]? := hf 6 _ rfl
 rw [Tryz.cc5] at f6
 obtain ⟨_, e6⟩ := some_at (by omega) f6
 have f7 : DataW.trod enc Tryz.prog W base spare held k 23 ((cs.drop 7).take (Tryz.prog.cellsOf 23)) = ys[7]? := hf 7 _ rfl
 rw [Tryz.cc23] at f7
 obtain ⟨_, e7⟩ := some_at (by omega) f7
 obtain ⟨z0, h0, w0⟩ := int_of Tryz.underlying5 e0
 obtain ⟨v0, l0⟩ := n8_of w0
 obtain ⟨z1, h1, w1⟩ := int_of Tryz.underlying5 e1
 obtain ⟨v1, l1⟩ := n8_of w1
 obtain ⟨z3, h3, w3⟩ := int_of Tryz.underlying5 e3
 obtain ⟨v3, l3⟩ := n8_of w3
 obtain ⟨z4, h4, w4⟩ := int_of Tryz.underlying5 e4
 obtain ⟨v4, l4⟩ := n8_of w4
 obtain ⟨z5, h5, w5⟩ := int_of Tryz.underlying5 e5
 obtain ⟨v5, l5⟩ := n8_of w5
 obtain ⟨z6, h6, w6⟩ := int_of Tryz.underlying5 e6
 obtain ⟨v6, l6⟩ := n8_of w6
 obtain ⟨b2, h2, _⟩ := DataW.trod_bool Tryz.underlying4 e2
 obtain ⟨A, c, qs, h7, hq⟩ := octs_in e7
 have hp := pieces (cs := cs) [1, 1, 1, 1, 1, 1, 1, 1] 0 (by simp; omega)
 refine ⟨⟨z0.toNat, z1.toNat, b2, z3.toNat, z4.toNat, z5.toNat, z6.toNat, A, c, qs⟩, ?_, ⟨l0, l1, l3, l4, l5, l6⟩, hq⟩
 rw [List.drop_zero] at hp
 rw [hp, actC, <- v0, <- v1, <- v3, <- v4, <- v5, <- v6]
 show (cs.drop 0).take 1 ++ ((cs.drop 1).take 1 ++ ((cs.drop 2).take 1 ++ ((cs.drop 3).take 1 ++ ((cs.drop 4).take 1 ++ ((cs.drop 5).take 1 ++ ((cs.drop 6).take 1 ++ ((cs.drop 7).take 1 ++ []))))))) = _
 rw [h0, h1, h2, h3, h4, h5, h6, h7]
 rfl
end
theorem acts_of {H : Type} {enc : TypeId × Value -> H} {W : World} {base : Nat} {spare : Nat -> Bool} {held : Bool} {A : Option Addr} {n c : Nat} {d : DataW H} {p : List MemPlace}
  (h : DataW.Trod enc Tryz.prog W base spare held 22 (.slice A n c) d p) : ∃ l : List MAct, l.length = n /\ As W A l := by
 obtain ⟨fuel, hf⟩ := h
 rcases open_slice Tryz.underlying22 hf with ⟨hcs, _⟩ | ⟨a, len, cap, m, k, D, Pl, hcs, _, hlc, hcm, hm, _, hx⟩
 ·simp [Value.cells] at hcs
  obtain ⟨rfl, rfl, rfl⟩ := hcs
  exact ⟨[], rfl, (fun o ho => by cases ho), fun h => absurd h (by simp)⟩
 ·simp [Value.cells] at hcs
  obtain ⟨rfl, rfl, rfl⟩ := hcs
  rw [Tryz.cc87] at hx
  have hnm : n <= m := by rw [hm]; split <;> omega
  have hx' : ∀ i, i < n -> ∃ x : MAct, (∀ j v, (actC x)[j]? = some v -> W.cell? ((a.add (i * 8)).add j) = some v) /\ x.Ok /\ Oc W x.qa x.q := by
   intro i hi
   obtain ⟨cs', hc, ht⟩ := hx i (by omega)
   obtain ⟨hl, _, hcell⟩ := World.cells?_some hc
   obtain ⟨x, rfl, ha, hb⟩ := act_cells ht
   refine ⟨x, fun j v hv => ?_, ha, hb⟩
   have hj : j < 8 := (List.getElem?_eq_some_iff.1 hv).1
   rw [hcell j hj]
   exact hv
  haveI : Inhabited MAct := ⟨zeroAct⟩
  obtain ⟨F, hF⟩ := choose_prs (α := MAct) hx'
  refine ⟨(List.range n).map F, by simp, fun o ho => ?_, fun hp => ?_⟩
  ·obtain ⟨i, hi, rfl⟩ := List.mem_map.1 ho
   exact (hF i (List.mem_range.1 hi)).2
  ·have hp0 : 0 < n := by simpa using hp
   obtain ⟨b, off, spot⟩ := a
   have h00 := (hF 0 hp0).1 0 _ rfl
   have hspot : spot = none := by simpa [Addr.add] using World.cell?_spot h00
   subst hspot
   refine ⟨b, off, rfl, ?_, fun j u hu => ?_⟩
   ·rw [add_plain2] at h00
    exact World.block_lt_of_cell? W _ h00
   ·rw [List.getElem?_map] at hu
    obtain ⟨z, hz1, rfl⟩ := Option.map_eq_some_iff.1 hu
    obtain ⟨hj, rfl⟩ := List.getElem?_eq_some_iff.1 hz1
    simp at hj
    obtain ⟨h1, _⟩ := hF j hj
    simp
    intro i v hv
    have := h1 i v hv
    rwa [add_plain2] at this
theorem acts_reach {H : Type} {enc : TypeId × Value -> H} {W : World} {base : Nat} {spare : Nat -> Bool} {held : Bool} {A : Option Addr} {n c : Nat} {d : DataW H} {p : List MemPlace} {ts : List TypeId} {ds : List (DataW H)} {j : Nat}
  (hsz : (DataW.weightsEach Tryz.prog ts ds).all (· <= reachBytes) = true) (ht : ts[j]? = some 22) (hd : ds[j]? = some d) (h : DataW.Trod enc Tryz.prog W base spare held 22 (.slice A n c) d p) : n <= 4398046511104 := by
 obtain ⟨fuel, hf⟩ := h
 rcases open_slice Tryz.underlying22 hf with ⟨hcs, _⟩ | ⟨a, len, cap, m, k, D, Pl, hcs, _, hlc, hcm, hm, hx, _⟩
 ·simp [Value.cells] at hcs
  omega
 ·simp [Value.cells] at hcs
  obtain ⟨rfl, rfl, rfl⟩ := hcs
  injection hx with hx1 hx2
  subst hx1
  have h2 := sized_slice hsz ht hd Tryz.underlying22
  rw [Tryz.bytes87] at h2
  simp at h2
  unfold reachBytes at h2
  omega
open Go.RowKit
theorem may_few {m : MMsg} (h : m.may) : m.body.qs.length <= 11 := by
 obtain ⟨_, _, hk, _, hs⟩ := h
 by_cases h4 : m.body.kind = 4
 ·rw [kindMay, if_neg (by rw [h4]; decide), if_neg (by rw [h4]; decide), if_neg (by rw [h4]; decide), if_pos h4, Bool.and_eq_true, prsMay, Bool.and_eq_true] at hk
  have := (prsGo_all _ _ hk.2.1).2 (by omega) (by omega)
  omega
 ·have e := hs.2.2.2.1
  have : (bodyOwn m.body).qs = [] := by
   rw [bodyOwn]
   split
   ·rfl
   ·split
    ·rfl
    ·first | rw [if_neg h4] | skip
     split <;> rfl
  rw [e, this]; exact Nat.zero_le _
theorem chk_few {n : Nat} {L : List MMsg} {m : MMsg} (h : chk n L m = 0) : m.body.qs.length <= 11 := may_few (chk_zero h).1
theorem mr_at {W : World} {A : Option Addr} {c : Nat} {l : List MMsg} (h : (mrT A c l).P W) (hl : 0 < l.length) : ∃ g o, A = some ⟨g, o, none⟩ /\ ∀ W' : World, (mrT A c l).P W' -> ∀ (j : Nat) (m : MMsg), l[j]? = some m -> g < W'.heap.size /\ W'.rangeAt g (o + j * 121) (msgC m) := by
 obtain ⟨g, e, _, _⟩ := mr_get h (List.getElem?_eq_getElem hl)
 refine ⟨g, 0, e, fun W' h' j m hj => ?_⟩
 obtain ⟨g', e', hl', hr⟩ := mr_get h' hj
 rw [e] at e'
 injection e' with e'
 injection e' with e' _
 subst e'
 exact ⟨hl', by rw [Nat.zero_add]; exact hr⟩
open Go.RowKit
theorem cnt_take_succ (L : List MMsg) (i o : Nat) : cnt (L.take i) o <= cnt (L.take (i + 1)) o := by
 rw [List.take_add_one]
 cases L[i]? with
 | none => simp
 | some x => rw [Option.toList_some, cnt_snoc]; exact Nat.le_add_right _ _
theorem cnt_take_le (L : List MMsg) {i j : Nat} (h : i <= j) (o : Nat) : cnt (L.take i) o <= cnt (L.take j) o := by
 induction h with
 | refl => exact Nat.le_refl _
 | step _ ih => exact Nat.le_trans ih (cnt_take_succ L _ o)
def dig9 : List UInt8 := 9 :: List.replicate 31 0
def bF (s : Nat) : MBody := { zeroBody with kind := 6, k := s, dig := dig9 }
def MMsg.fk (m : MMsg) (s : Nat) : MMsg := { m with body := bF s }
open Go.RowKit
def st (L : List MMsg) (i : Nat) : List MMsg := L.filter fun m => decide (m.origin = (i : Int) + 1)
theorem st_strm (L : List MMsg) (i : Nat) : (strm L i).map Prod.fst = st L i := zip_filter (fun m : MMsg => decide (m.origin = (i : Int) + 1)) L 0
theorem st_length (L : List MMsg) (i : Nat) : (st L i).length = cnt L i := by rw [<- st_strm, List.length_map, cnt]
theorem ahd_st (L : List MMsg) (i : Nat) : ahd L i = match (st L i).getLast? with | some m => m.deps | none => z11 := by
 rw [ahd, <- st_strm, List.getLast?_map]
 cases (strm L i).getLast? <;> rfl
theorem nm_st {L : List MMsg} (h : Nm L) {i j : Nat} {m : MMsg} (hj : (st L i)[j]? = some m) : m.number = j + 1 := by
 rw [<- st_strm, List.getElem?_map, Option.map_eq_some_iff] at hj
 obtain ⟨t, ht, rfl⟩ := hj
 exact h.2 i j t ht
theorem mem_st {L : List MMsg} {m : MMsg} (h : m ∈ L) (ho : m.origin = (m.oi : Int) + 1) : m ∈ st L m.oi := by
 simp only [st, List.mem_filter, decide_eq_true_eq]
 exact ⟨h, ho⟩
theorem st_at {L : List MMsg} (hn : Nm L) {m : MMsg} (h : m ∈ L) : (st L m.oi)[m.number - 1]? = some m /\ 1 <= m.number /\ m.number <= cnt L m.oi := by
 obtain ⟨j, hj⟩ := List.mem_iff_getElem?.1 (mem_st h (of_oi (hn.1 m h)).2)
 have e := nm_st hn hj
 have hl := (List.getElem?_eq_some_iff.1 hj).1
 rw [st_length] at hl
 exact ⟨by rw [e]; exact hj, by omega, by omega⟩
def At (L all : List MMsg) (c : Nat -> Nat) : Prop := (∀ m ∈ L, 1 <= m.origin /\ m.origin <= 11) /\ ∀ o, o < 11 -> c o <= cnt all o /\ (st L o).map MMsg.bare = ((st all o).take (c o)).map MMsg.bare
theorem At.cnt {L all : List MMsg} {c : Nat -> Nat} (h : At L all c) {o : Nat} (ho : o < 11) : cnt L o = c o := by
 have e := congrArg List.length (h.2 o ho).2
 rw [List.length_map, List.length_map, List.length_take, st_length, st_length] at e
 have := (h.2 o ho).1
 omega
theorem bare_deps {x y : List MMsg} (h : x.map MMsg.bare = y.map MMsg.bare) : (match x.getLast? with | some m => m.deps | none => z11) = (match y.getLast? with | some m => m.deps | none => z11) := by
 have e := congrArg List.getLast? h
 rw [List.getLast?_map, List.getLast?_map] at e
 cases hx : x.getLast? with
 | none =>
  cases hy : y.getLast? with
  | none => rfl
  | some b => rw [hx, hy] at e; cases e
 | some a =>
  cases hy : y.getLast? with
  | none => rw [hx, hy] at e; cases e
  | some b =>
   rw [hx, hy] at e
   have e2 : a.bare = b.bare := Option.some.inj e
   have e3 : a.bare.deps = b.bare.deps := by rw [e2]
   exact e3
theorem At.ahd {L L' all : List MMsg} {c c' : Nat -> Nat} (h : At L all c) (h' : At L' all c') {o : Nat} (ho : o < 11) (e : c o = c' o) : ahd L o = ahd L' o := by
 rw [ahd_st, ahd_st]
 exact bare_deps ((h.2 o ho).2.trans (by rw [e]; exact (h'.2 o ho).2.symm))
theorem st_take (all : List MMsg) (p o : Nat) : st (all.take p) o = (st all o).take (cnt (all.take p) o) := by
 have e : st all o = st (all.take p) o ++ st (all.drop p) o := by rw [st, st, st, <- List.filter_append, List.take_append_drop]
 rw [e, <- st_length, List.take_append_of_le_length (Nat.le_refl _), List.take_length]
theorem at_take {all : List MMsg} (hn : Nm all) (p : Nat) : At (all.take p) all (fun o => Sh.cnt (all.take p) o) :=
 ⟨fun m hm => hn.1 m (List.mem_of_mem_take hm), fun o _ => ⟨by have := cnt_take_le all (Nat.le_max_left p all.length) o; rwa [List.take_of_length_le (Nat.le_max_right ..)] at this, by rw [st_take]⟩⟩
theorem at_chk {n : Nat} {all L : List MMsg} {c : Nat -> Nat} (h : At L all c) (hn : Nm all) {p : Nat} {m : MMsg} (hw : m.Wf) (hz : chk n (all.take p) m = 0) (hc : c m.oi + 1 = m.number) (hd : ∀ j, j < 11 -> m.deps.getD j 0 <= c j) : chk n L m = 0 := by
 obtain ⟨h1, h2, h3, h4, h5, _⟩ := chk_zero hz
 have ho := (may_oi h1).1
 have e1 : Sh.cnt L m.oi = c m.oi := h.cnt ho
 have e2 : Sh.ahd L m.oi = Sh.ahd (all.take p) m.oi := h.ahd (at_take hn p) ho (by omega)
 have := chk_next h1 h2 h3 (by rw [e1]; omega) (by rw [e2]; exact h5) false (blw_no (kn_length _) hw.1 fun j hj => by rw [kn_getD _ hj, h.cnt hj]; exact hd j hj)
 rw [this]; rfl
theorem At.snoc {all L : List MMsg} {c : Nat -> Nat} (h : At L all c) (hn : Nm all) {m m' : MMsg} (hm : m ∈ all) (hb : m'.bare = m.bare) (hc : c m.oi + 1 = m.number) : At (L ++ [m']) all (upd c m.oi (c m.oi + 1)) := by
 have eo : m'.bare.origin = m.bare.origin := by rw [hb]
 change m'.origin = m.origin at eo
 have hmo := hn.1 m hm
 have hoi := of_oi hmo
 obtain ⟨g1, g2, g3⟩ := st_at hn hm
 refine ⟨fun x hx => ?_, fun o ho => ?_⟩
 ·rcases List.mem_append.1 hx with hx | hx
  ·exact h.1 x hx
  ·rw [List.mem_singleton.1 hx, eo]; exact hmo
 ·have hst : st (L ++ [m']) o = st L o ++ (if m'.origin = (o : Int) + 1 then [m'] else []) := by
   simp only [st, List.filter_append]
   congr 1
   by_cases e : m'.origin = (o : Int) + 1 <;> simp [e]
  rw [hst]
  by_cases e : o = m.oi
  ·subst e
   rw [upd_same, if_pos (by rw [eo]; exact hoi.2), List.map_append, (h.2 _ hoi.1).2, List.take_add_one, show (st all m.oi)[c m.oi]? = some m by rw [<- g1]; congr 1; omega]
   refine ⟨by omega, ?_⟩
   rw [Option.toList_some, List.map_append]
   show _ ++ [m'.bare] = _ ++ [m.bare]
   rw [hb]
  ·rw [upd_ne _ _ e, if_neg (by rw [eo]; omega), List.append_nil]
   exact h.2 o ho
theorem At.congr {all L : List MMsg} {c c' : Nat -> Nat} (h : At L all c) (e : ∀ o, o < 11 -> c o = c' o) : At L all c' := ⟨h.1, fun o ho => by rw [<- e o ho]; exact h.2 o ho⟩
theorem At.nm {all L : List MMsg} {c : Nat -> Nat} (h : At L all c) (hn : Nm all) : ∀ o, o < 11 -> ∀ (j : Nat) (m : MMsg), (st L o)[j]? = some m -> m.number = j + 1 := fun o ho j m hj => by
 have e : ((st L o).map MMsg.bare)[j]? = some m.bare := by rw [List.getElem?_map, hj]; rfl
 rw [(h.2 o ho).2, List.getElem?_map, Option.map_eq_some_iff] at e
 obtain ⟨m', h1, h2⟩ := e
 rw [List.getElem?_take] at h1
 split at h1
 ·have := nm_st hn h1
  have e3 : m'.bare.number = m.bare.number := by rw [h2]
  change m'.number = m.number at e3
  omega
 ·cases h1
def notYet (c : Nat -> Nat) (L : List MMsg) : List MMsg := L.filter fun m => decide (c m.oi < m.number)
theorem cnt_notYet {all : List MMsg} (hn : Nm all) (c : Nat -> Nat) (p : Nat) (o : Nat) : cnt (notYet c (all.take p)) o = cnt (all.take p) o - c o := by
 have e : st (notYet c (all.take p)) o = (st (all.take p) o).filter fun m => decide (c o < m.number) := by
  rw [st, notYet, st, List.filter_filter, List.filter_filter]
  apply List.filter_congr
  intro m hm
  by_cases hx : m.origin = (o : Int) + 1
  ·rw [oi_of hx]; simp [hx, Bool.and_comm]
  ·simp [hx]
 rw [<- st_length, e, <- drop_filter (f := fun m : MMsg => m.number) (st (all.take p) o) 0 (c o) (fun j t hj => by
  rw [st_take, List.getElem?_take] at hj
  split at hj
  ·have := nm_st hn hj; omega
  ·cases hj), List.length_drop, st_length, Nat.sub_zero]
theorem sum_notYet {all L : List MMsg} {c : Nat -> Nat} (hn : Nm all) (h : At L all c) : ∀ j, j <= 11 -> sumTo (notYet c all) j + sumTo L j = sumTo all j
 | 0, _ => rfl
 | j + 1, hj => by
  have ih := sum_notYet hn h j (by omega)
  have h1 := cnt_notYet hn c all.length j
  rw [List.take_length] at h1
  have h2 := (h.2 j (by omega)).1
  have h3 : cnt L j = c j := h.cnt (by omega)
  simp only [sumTo]
  omega
theorem notYet_length {all L : List MMsg} {c : Nat -> Nat} (hn : Nm all) (h : At L all c) : (notYet c all).length + L.length = all.length := by
 have e := sum_notYet hn h 11 (Nat.le_refl _)
 rw [sumTo_all (notYet c all) (fun m hm => hn.1 m (List.mem_filter.1 hm).1), sumTo_all _ h.1, sumTo_all _ hn.1] at e
 exact e
theorem nm_world {n : Nat} {all : List MMsg} (hg : ∀ (i : Nat) (m : MMsg), all[i]? = some m -> chk n (all.take i) m = 0) : ∀ i, i <= all.length -> Nm (all.take i)
 | 0, _ => nm_nil
 | i + 1, hi => by
  have h1 : all[i]? = some all[i] := List.getElem?_eq_getElem (by omega)
  have := nm_snoc (nm_world hg i (by omega)) (hg i _ h1) all[i].body.qa all[i].body.qc
  rw [List.take_add_one, h1, Option.toList_some]
  exact this
end Go.Proofs.YtllbbcifcbkgeaaGreatDoor.Sh
