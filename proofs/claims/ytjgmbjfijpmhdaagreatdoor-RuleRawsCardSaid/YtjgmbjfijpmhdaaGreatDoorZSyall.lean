/- Plain words on merging in place: turned parts, searches by halving, two sorted parts merged, blocks. -/
import Derived.Sort.LotA
import Derived.Test.YtjgmbjfijpmhdaaGreatDoorChecked
import Derived.Test.YtjgmbjfijpmhdaaGreatDoorZCall
import Derived.Shelf.SlSortCmp.KitK
import Derived.Sort.WalkC4
import Derived.Deep.LoopGhost
import Derived.BigRegion
import Derived.Outline
import Derived.Deep.DeepCutAuto
import Derived.WalkKit
import Derived.Test.YtjgmbjfijpmhdaaGreatDoorZShelk
set_option maxRecDepth 1000000
set_option maxHeartbeats 8000000
namespace Go.Proofs.YtjgmbjfijpmhdaaGreatDoor
open Go.Sort
set_option linter.unusedVariables false
set_option linter.unusedSimpArgs false
section
variable {α:Type} [Inhabited α] {lt:α→α→Bool}
def srF (d:Array α) (a b n t:Nat):α:=if a≤t∧t<a+n then d[t-a+b]! else if b≤t∧t<b+n then d[t-b+a]! else d[t]!
def rotF (d:Array α) (a m b t:Nat):α:=if a≤t∧t<a+(b-m) then d[t+(m-a)]! else if a+(b-m)≤t∧t<b then d[t-(b-m)]! else d[t]!
theorem srF_swp {d dk:Array α} {a b i n:Nat} (hs:dk.size=d.size) (hin:i<n) (hab:a+n≤b) (hb:b+n≤d.size) (h:∀ t,dk[t]! = srF d a b i t):∀ t,(swp dk (a+i) (b+i))[t]! = srF d a b (i+1) t:=by
 intro t
 rw [swp_get dk (by omega) (by omega)]
 have ha:=h (a+i)
 have hb':=h (b+i)
 have ht:=h t
 unfold srF at *
 rw [if_neg (by omega),if_neg (by omega)] at ha
 rw [if_neg (by omega),if_neg (by omega)] at hb'
 by_cases e1:t=b+i
 ·subst e1
  rw [if_pos rfl,ha,if_neg (by omega),if_pos (by omega)]
  congr 1;omega
 ·by_cases e2:t=a+i
  ·subst e2
   rw [if_neg (by omega),if_pos rfl,hb',if_pos (by omega)]
   congr 1;omega
  ·rw [if_neg (by omega),if_neg (by omega),ht]
   by_cases c1:a≤t∧t<a+i
   ·rw [if_pos c1,if_pos (by omega)]
   ·rw [if_neg c1]
    by_cases c2:b≤t∧t<b+i
    ·rw [if_pos c2,if_neg (by omega),if_pos (by omega)]
    ·rw [if_neg c2,if_neg (by omega),if_neg (by omega)]
theorem srF_zero (d:Array α) (a b t:Nat):srF d a b 0 t=d[t]!:=by
 unfold srF
 rw [if_neg (by omega),if_neg (by omega)]
theorem rot_left {d d':Array α} {m i j t:Nat} (hij:j<i) (hj:0<j) (him:i≤m) (h:∀ t,d'[t]! = srF d (m-i) m j t):rotF d (m-i) m (m+j) t=rotF d' (m-(i-j)) m (m+j) t:=by
 unfold rotF
 rw [h t,h (t+(m-(m-(i-j)))),h (t-(m+j-m))]
 unfold srF
 by_cases c1:m-i≤t∧t<m-i+(m+j-m)
 ·rw [if_pos c1,if_neg (by omega),if_neg (by omega),if_pos (by omega)]
  congr 1;omega
 ·rw [if_neg c1]
  by_cases c2:m-i+(m+j-m)≤t∧t<m+j
  ·rw [if_pos c2]
   by_cases c3:m-(i-j)≤t∧t<m-(i-j)+(m+j-m)
   ·rw [if_pos c3]
    by_cases c4:t+(m-(m-(i-j)))<m
    ·exact absurd c4 (by omega)
    ·rw [if_neg (by omega),if_pos (by omega)]
     congr 1;omega
   ·rw [if_neg c3,if_pos (by omega),if_neg (by omega),if_neg (by omega)]
  ·rw [if_neg c2,if_neg (by omega),if_neg (by omega),if_neg (by omega),if_neg (by omega)]
theorem rot_right {d d':Array α} {m i j t:Nat} (hij:i<j) (hi:0<i) (him:i≤m) (h:∀ t,d'[t]! = srF d (m-i) (m+j-i) i t):rotF d (m-i) m (m+j) t=rotF d' (m-i) m (m+(j-i)) t:=by
 unfold rotF
 rw [h t,h (t+(m-(m-i))),h (t-(m+(j-i)-m))]
 unfold srF
 by_cases c1:m-i≤t∧t<m-i+(m+j-m)
 ·rw [if_pos c1]
  by_cases c2:t<m+(j-i)-i
  ·rw [if_pos (by omega),if_neg (by omega),if_neg (by omega)]
  ·rw [if_neg (by omega)]
   by_cases c3:t<m+(j-i)
   ·rw [if_pos (by omega),if_pos (by omega)]
    congr 1;omega
   ·exact absurd c3 (by omega)
 ·rw [if_neg c1]
  by_cases c2:m-i+(m+j-m)≤t∧t<m+j
  ·rw [if_pos c2,if_neg (by omega),if_neg (by omega),if_neg (by omega),if_pos (by omega)]
   congr 1;omega
  ·rw [if_neg c2,if_neg (by omega),if_neg (by omega),if_neg (by omega),if_neg (by omega)]
theorem rot_same {d d':Array α} {m i t:Nat} (him:i≤m) (h:∀ t,d'[t]! = srF d (m-i) m i t):d'[t]! = rotF d (m-i) m (m+i) t:=by
 rw [h t]
 unfold rotF srF
 by_cases c1:m-i≤t∧t<m-i+i
 ·rw [if_pos c1,if_pos (by omega)]
  congr 1;omega
 ·rw [if_neg c1,if_neg (show ¬ (m-i≤t∧t<m-i+(m+i-m)) by omega)]
  by_cases c2:m≤t∧t<m+i
  ·rw [if_pos c2,if_pos (show m-i+(m+i-m)≤t∧t<m+i by omega)]
   congr 1;omega
  ·rw [if_neg c2,if_neg (show ¬ (m-i+(m+i-m)≤t∧t<m+i) by omega)]
theorem rot_none {d:Array α} {a m b t:Nat} (h:a=m∨m=b) (h1:a≤m) (h2:m≤b):rotF d a m b t=d[t]!:=by
 unfold rotF
 rcases h with rfl | rfl
 ·by_cases c1:a≤t∧t<a+(b-a)
  ·rw [if_pos c1];congr 1;omega
  ·rw [if_neg c1,if_neg (by omega)]
 ·rw [if_neg (by omega)]
  by_cases c2:a+(m-m)≤t∧t<m
  ·rw [if_pos c2];congr 1;omega
  ·rw [if_neg c2]
def Merged (lt:α→α→Bool) (d:Array α) (a m b:Nat) (d':Array α):Prop:=PermIn a b d d'∧(SortedIn lt a m d→SortedIn lt m b d→SortedIn lt a b d')
theorem srt_sub {a b a' b':Nat} {d:Array α} (h:SortedIn lt a b d) (h1:a≤a') (h2:b'≤b):SortedIn lt a' b' d:=fun i j hi hij hj=>h i j (by omega) hij (by omega)
theorem srt_le (hS:SWO lt) {a b:Nat} {d:Array α} (h:SortedIn lt a b d) {i j:Nat} (hi:a≤i) (hij:i≤j) (hj:j<b):lt d[j]! d[i]! = false:=by
 rcases Nat.lt_or_ge i j with h1 | h1
 ·exact h i j hi h1 hj
 ·have:i=j:=by omega
  subst this
  exact hS.irrefl _
def Half (p:Nat→Bool) (lo i j hi:Nat):Prop:=(∀ t,lo≤t→t<i→p t=true)∧(∀ t,j≤t→t<hi→p t=false)
def Mono (p:Nat→Bool) (lo hi:Nat):Prop:=∀ s t,lo≤s→s≤t→t<hi→p t=true→p s=true
theorem Half.up {p:Nat→Bool} {lo i j hi h:Nat} (H:Half p lo i j hi) (hm:Mono p lo hi) (h1:i≤h) (h2:h<j) (hj:j≤hi) (hp:p h=true):Half p lo (h+1) j hi:=⟨fun t ht hth=>by
 exact hm t h ht (by omega) (by omega) hp,H.2⟩
theorem Half.down {p:Nat→Bool} {lo i j hi h:Nat} (H:Half p lo i j hi) (hm:Mono p lo hi) (h1:i≤h) (h2:h<j) (hl:lo≤i) (hp:p h=false):Half p lo i h hi:=⟨H.1,fun t ht hth=>by
 cases hq:p t with
 | false=>rfl
 | true=>rw [hm h t (by omega) ht hth hq] at hp;cases hp⟩
theorem Half.start {p:Nat→Bool} {lo hi:Nat}:Half p lo lo hi hi:=⟨fun t h1 h2=>by omega,fun t h1 h2=>by omega⟩
theorem mono_one (hS:SWO lt) {d:Array α} {a m b:Nat} (h:SortedIn lt m b d):Mono (fun t=>lt d[t]! d[a]!) m b:=fun s t h1 h2 h3 hp=>by
 simp only at hp ⊢
 cases hq:lt d[s]! d[a]! with
 | true=>rfl
 | false =>
  have:=hS.ntrans _ _ _ (srt_le hS h h1 h2 h3) hq
  rw [this] at hp;cases hp
theorem mono_other (hS:SWO lt) {d:Array α} {a m:Nat} (h:SortedIn lt a m d):Mono (fun t=>!(lt d[m]! d[t]!)) a m:=fun s t h1 h2 h3 hp=>by
 simp only [Bool.not_eq_true'] at hp ⊢
 exact hS.ntrans _ _ _ hp (srt_le hS h h1 h2 h3)
theorem mono_both (hS:SWO lt) {d:Array α} {a m b p lo hi:Nat} (h1:SortedIn lt a m d) (h2:SortedIn lt m b d) (ha:a≤lo) (hm:hi≤m) (hp:∀ c,lo≤c→c<hi→m≤p-c∧p-c<b∧c≤p):Mono (fun c=>!(lt d[p-c]! d[c]!)) lo hi:=fun s t e1 e2 e3 hq=>by
 simp only [Bool.not_eq_true'] at hq ⊢
 have k1:=hp s e1 (by omega)
 have k2:=hp t (by omega) e3
 exact hS.ntrans _ _ _ (hS.ntrans _ _ _ (srt_le hS h2 k2.1 (by omega) k1.2.1) hq) (srt_le hS h1 (by omega) e2 (by omega))
theorem merged_one (hS:SWO lt) {d d':Array α} {a b i:Nat} (hp:PermIn a b d d') (hai:a+1≤i) (hib:i≤b) (hd:∀ t,d'[t]! = if a≤t∧t<i-1 then d[t+1]! else if t=i-1 then d[a]! else d[t]!)
 (hh:SortedIn lt (a+1) b d→Half (fun t=>lt d[t]! d[a]!) (a+1) i i b):Merged lt d a (a+1) b d':=by
 refine ⟨hp,fun _ h2 s t hs hst htb=>?_⟩
 obtain ⟨k1,k2⟩:=hh h2
 simp only at k1 k2
 rw [hd s,hd t]
 by_cases e1:t<i-1
 ·rw [if_pos (by omega),if_pos (by omega)]
  exact h2 _ _ (by omega) (by omega) (by omega)
 ·by_cases e2:t=i-1
  ·subst e2
   rw [if_neg (by omega),if_pos rfl,if_pos (by omega)]
   cases hq:lt d[a]! d[s+1]! with
   | false=>rfl
   | true =>
    have:=hS.trans _ _ _ hq (k1 (s+1) (by omega) (by omega))
    rw [hS.irrefl] at this;cases this
  ·rw [if_neg (by omega),if_neg e2]
   by_cases e3:s<i-1
   ·rw [if_pos (by omega)]
    exact h2 _ _ (by omega) (by omega) (by omega)
   ·rw [if_neg (by omega)]
    by_cases e4:s=i-1
    ·rw [if_pos e4]
     exact k2 t (by omega) htb
    ·rw [if_neg e4]
     exact h2 _ _ (by omega) (by omega) (by omega)
theorem merged_other (hS:SWO lt) {d d':Array α} {a m i:Nat} (hp:PermIn a (m+1) d d') (hai:a≤i) (him:i≤m) (hd:∀ t,d'[t]! = if i<t∧t≤m then d[t-1]! else if t=i then d[m]! else d[t]!)
 (hh:SortedIn lt a m d→Half (fun t=>!(lt d[m]! d[t]!)) a i i m):Merged lt d a m (m+1) d':=by
 refine ⟨hp,fun h1 _ s t hs hst htb=>?_⟩
 obtain ⟨k1,k2⟩:=hh h1
 simp only [Bool.not_eq_true',Bool.not_eq_false'] at k1 k2
 rw [hd s,hd t]
 by_cases e1:i<t
 ·rw [if_pos (show i<t∧t≤m by omega)]
  by_cases e2:i<s
  ·rw [if_pos (by omega)]
   exact h1 _ _ (by omega) (by omega) (by omega)
  ·rw [if_neg (by omega)]
   by_cases e3:s=i
   ·rw [if_pos e3]
    cases hq:lt d[t-1]! d[m]! with
    | false=>rfl
    | true =>
     have:=hS.trans _ _ _ hq (k2 (t-1) (by omega) (by omega))
     rw [hS.irrefl] at this;cases this
   ·rw [if_neg e3]
    exact h1 _ _ (by omega) (by omega) (by omega)
 ·rw [if_neg (by omega)]
  by_cases e2:t=i
  ·rw [if_pos e2,if_neg (by omega),if_neg (by omega)]
   exact k1 s hs (by omega)
  ·rw [if_neg e2,if_neg (by omega),if_neg (by omega)]
   exact h1 _ _ hs hst (by omega)
theorem merged_all (hS:SWO lt) {d d1 d2 d3:Array α} {a m b mid st en:Nat} (hb:b≤d.size) (ham:a≤m) (hmb:m≤b) (has:a≤st) (hsm:st≤m) (hme:m≤en) (heb:en≤b) (hmid:st+(en-m)=mid) (hp1:PermIn st en d d1) (hr:∀ t,d1[t]! = rotF d st m en t)
 (hh:SortedIn lt a m d→SortedIn lt m b d→(∀ c,a≤c→c<st → ∀ t,en≤t→t<b→lt d[t]! d[c]! = false)∧(∀ c,st≤c→c<m → ∀ t,m≤t→t<en→lt d[t]! d[c]! = true))
 (k2:Merged lt d1 a st mid d2) (k3:Merged lt d2 mid en b d3):Merged lt d a m b d3:=by
 have s1:d1.size=d.size:=hp1.1
 have s2:d2.size=d1.size:=k2.1.1
 have e1:=permIn_mono d d1 st en a b has heb hb hp1
 have e2:=permIn_mono d1 d2 a mid a b (Nat.le_refl _) (by omega) (by omega) k2.1
 have e3:=permIn_mono d2 d3 mid b a b (by omega) (Nat.le_refl _) (by omega) k3.1
 refine ⟨permIn_trans _ _ _ a b (permIn_trans _ _ _ a b e1 e2) e3,fun h1 h2=>?_⟩
 obtain ⟨q1,q2⟩:=hh h1 h2
 have r1:SortedIn lt a st d1:=fun i j hi hij hj=>by
  rw [hr i,hr j]
  unfold rotF
  rw [if_neg (by omega),if_neg (by omega),if_neg (by omega),if_neg (by omega)]
  exact h1 i j hi hij (by omega)
 have r2:SortedIn lt st mid d1:=fun i j hi hij hj=>by
  rw [hr i,hr j]
  unfold rotF
  rw [if_pos (by omega),if_pos (by omega)]
  exact h2 _ _ (by omega) (by omega) (by omega)
 have t1:SortedIn lt a mid d2:=k2.2 r1 r2
 have up:∀ t,mid≤t→d2[t]! = d1[t]!:=fun t ht=>k2.1.2.1 t (.inr ht)
 have r3:SortedIn lt mid en d2:=fun i j hi hij hj=>by
  rw [up i hi,up j (by omega),hr i,hr j]
  unfold rotF
  rw [if_neg (by omega),if_pos (by omega),if_neg (by omega),if_pos (by omega)]
  exact h1 _ _ (by omega) (by omega) (by omega)
 have r4:SortedIn lt en b d2:=fun i j hi hij hj=>by
  rw [up i (by omega),up j (by omega),hr i,hr j]
  unfold rotF
  rw [if_neg (by omega),if_neg (by omega),if_neg (by omega),if_neg (by omega)]
  exact h2 _ _ (by omega) (by omega) (by omega)
 have t2:SortedIn lt mid b d3:=k3.2 r3 r4
 have x1:∀ i,a≤i→i<mid → ∀ j,mid≤j→j<b→lt d1[j]! d1[i]! = false:=fun i hi him j hj hjb=>by
  rw [hr i,hr j]
  unfold rotF
  rw [if_neg (show ¬ (st≤j∧j<st+(en-m)) by omega)]
  by_cases c1:st≤i
  ·rw [if_pos (show st≤i∧i<st+(en-m) by omega)]
   by_cases c2:j<en
   ·rw [if_pos (by omega)]
    cases hq:lt d[j-(en-m)]! d[i+(m-st)]! with
    | false=>rfl
    | true =>
     have:=hS.trans _ _ _ hq (q2 (j-(en-m)) (by omega) (by omega) (i+(m-st)) (by omega) (by omega))
     rw [hS.irrefl] at this;cases this
   ·rw [if_neg (by omega)]
    exact h2 _ _ (by omega) (by omega) (by omega)
  ·rw [if_neg (show ¬ (st≤i∧i<st+(en-m)) by omega),if_neg (show ¬ (st+(en-m)≤i∧i<en) by omega)]
   by_cases c2:j<en
   ·rw [if_pos (by omega)]
    exact h1 _ _ (by omega) (by omega) (by omega)
   ·rw [if_neg (by omega)]
    exact q1 i hi (by omega) j (by omega) hjb
 have x2:∀ i,a≤i→i<mid → ∀ j,mid≤j→j<b→lt d1[j]! d2[i]! = false :=
  permIn_all d1 d2 a mid (fun x=>∀ j,mid≤j→j<b→lt d1[j]! x=false) (by omega) k2.1 x1
 have x3:∀ j,mid≤j→j<b → ∀ i,a≤i→i<mid→lt d3[j]! d2[i]! = false :=
  permIn_all d2 d3 mid b (fun x=>∀ i,a≤i→i<mid→lt x d2[i]! = false) (by omega) k3.1 (fun j hj hjb i hi him=>by rw [up j hj];exact x2 i hi him j hj hjb)
 intro i j hi hij hj
 by_cases c1:j<mid
 ·rw [k3.1.2.1 i (.inl (by omega)),k3.1.2.1 j (.inl c1)]
  exact t1 i j hi hij c1
 ·by_cases c2:i<mid
  ·rw [k3.1.2.1 i (.inl c2)]
   exact x3 j (by omega) hj i hi c2
  ·exact t2 i j (by omega) hij hj
theorem search_tells (hS:SWO lt) {d:Array α} {a m b mid st lo hi:Nat} (h1:SortedIn lt a m d) (h2:SortedIn lt m b d) (hmid:mid=(a+b) / 2) (ham:a<m) (hmb:m<b)
 (hlo:lo=if mid<m then mid+m-b else a) (hhi:hi=if mid<m then mid else m) (hst:lo≤st∧st≤hi) (H:Half (fun c=>!(lt d[mid+m-1-c]! d[c]!)) lo st st hi) :
 (∀ c,a≤c→c<st → ∀ t,mid+m-st≤t→t<b→lt d[t]! d[c]! = false)∧(∀ c,st≤c→c<m → ∀ t,m≤t→t<mid+m-st→lt d[t]! d[c]! = true):=by
 obtain ⟨k1,k2⟩:=H
 simp only [Bool.not_eq_true',Bool.not_eq_false'] at k1 k2
 refine ⟨fun c hc hcs t ht htb=>?_,fun c hc hcm t ht hte=>?_⟩
 ·by_cases hq:lo<st
  ·have e:=k1 (st-1) (by omega) (by omega)
   have b1:mid+m-1-(st-1)=mid+m-st:=by split at hlo <;> omega
   rw [b1] at e
   refine hS.ntrans _ _ _ (srt_le hS h2 ?_ ht htb) (hS.ntrans _ _ _ e (srt_le hS h1 hc (by omega) ?_))
   ·split at hhi <;> omega
   ·split at hhi <;> omega
  ·exfalso
   split at hlo <;> omega
 ·by_cases hq:st<hi
  ·have e:=k2 st (Nat.le_refl _) hq
   cases hw:lt d[t]! d[c]! with
   | true=>rfl
   | false =>
    have b1:m≤mid+m-1-st∧mid+m-1-st<b:=by split at hlo <;> split at hhi <;> omega
    have:=hS.ntrans _ _ _ (srt_le hS h2 ht (show t≤mid+m-1-st by omega) b1.2) (hS.ntrans _ _ _ hw (srt_le hS h1 (by split at hlo <;> omega) hc hcm))
    rw [this] at e;cases e
  ·exfalso
   split at hhi <;> omega
end
end Go.Proofs.YtjgmbjfijpmhdaaGreatDoor
namespace Go.Proofs.YtjgmbjfijpmhdaaGreatDoor
open Go.RowKit Go.Lib Go.Sort
set_option linter.unusedVariables false
set_option linter.unusedSimpArgs false
theorem swk_cells {d0 dk:Array Ac} {B off:Nat} {w0 W:World} (S:SWK cc 4 w0 B off dk W) (R:RowK cc 4 w0 B off d0) (hs:dk.size=d0.size) {x:Nat} (hx:x<dk.size):∀ j u,(cc dk[x]!)[j]?=some u→W.cell? ⟨B,off+x * 4+j,none⟩=some u∧W.frozen? ⟨B,off+x * 4+j,none⟩=false:=by
 intro j u hj
 have hH:=S.holds R.hblk R.hH hs
 have hj4:j<4:=by have:=(List.getElem?_eq_some_iff.1 hj).1;rw [cc_len] at this;exact this
 have hlt:x * 4+j<dk.size * 4:=by omega
 obtain ⟨h1,h2⟩:=hH (x * 4+j) (by rw [size_flatK];exact hlt)
 rw [get_flatK cc 4 dk _ hlt,show (x * 4+j) / 4=x from by omega,show (x * 4+j) % 4=j from by omega] at h1
 rw [← Nat.add_assoc] at h1 h2
 refine ⟨?_,h2⟩
 rw [h1]
 have:(cc dk[x]!)[j]! = u:=by simp [hj]
 rw [this];rfl
theorem drew_set (w:World) (a:Addr) (v:Value):w.drew.setCell a v=(w.setCell a v).drew:=by
 unfold World.drew World.setCell
 rfl
theorem swap8 (w:World) (B p q:Nat) (a0 a1 a2 a3 b0 b1 b2 b3:Value):(w.drew.setCells B p [b0,b1,b2,b3]).setCells B q [a0,a1,a2,a3]=((((((((w.setCell ⟨B,p,none⟩ b0).setCell ⟨B,p+1,none⟩ b1).setCell ⟨B,p+2,none⟩ b2).setCell ⟨B,p+3,none⟩ b3).setCell ⟨B,q,none⟩ a0).setCell ⟨B,q+1,none⟩ a1).setCell ⟨B,q+2,none⟩ a2).setCell ⟨B,q+3,none⟩ a3).drew:=by
 simp only [World.setCells,drew_set,Nat.add_assoc,Nat.reduceAdd]
theorem swap_range (d0 d:Array Ac) (B off cap a b n:Nat) (fv:Value) (w0 w:World) (R:RowK cc 4 w0 B off d0) (S:SWK cc 4 w0 B off d w) (hs:d.size=d0.size) (hab:a+n≤b) (hb:b+n≤d.size) (hsz:d.size<4611686018427387904) :
 Calls Tryz.prog 243 #[.slice (some ⟨B,off,none⟩) d.size cap,.int .i64 (a:Int),.int .i64 (b:Int),.int .i64 (n:Int),fv] w fun e w'=>e = .returned (.tuple #[]) ∧ ∃ d':Array Ac,d'.size=d.size∧(∀ t,d'[t]! = srF d a b n t)∧PermIn a (b+n) d d'∧SWK cc 4 w0 B off d' w':=by
 have S0:Aside (SWK cc 4 w0 B off d w):=S
 have HR:Hid (RowK cc 4 w0 B off d0):=R
 have HS:=Lib.hid hs
 have mixed:Tryz.prog.follows .mixedOrders=true:=by kernel_rfl
 clear S R hs
 go_enter Tryz.func243,Tryz.ntmps243
 go_wp2_with fail
 go_loopw [10] (fun vi wr=>∃ (i:Nat) (dk:Array Ac),vi = .int .i64 i∧i≤n∧dk.size=d.size∧Aside (SWK cc 4 w0 B off dk wr)∧Hid ((∀ t,dk[t]! = srF d a b i t)∧PermIn a (b+n) d dk))
  (fun vi _=>n-(intOf vi).toNat)
 case atStart=>exact ⟨0,d,rfl,by omega,rfl,S0,⟨fun t=>(srF_zero d a b t).symm,permIn_refl _ _ _⟩⟩
 case round =>
  clear S0
  obtain ⟨i,dk,rfl,hin,hsk,S1,HD⟩:=hrel
  by_cases hlt:i<n
  ·have hltz:(i:Int)<(n:Int):=by omega
   have HW:=fun (x y:Nat) (h1:x+y<4611686018427387904)=>show IntKind.i64.wrap ((x:Int)+(y:Int))=((x+y:Nat):Int) by rw [IntKind.wrap_i64];omega
   have r1:=HW a i (by omega)
   have r2:=HW b i (by omega)
   clear HW
   obtain ⟨x,hx⟩:∃ x,a+i=x:=⟨_,rfl⟩
   obtain ⟨y,hy⟩:∃ y,b+i=y:=⟨_,rfl⟩
   rw [hx] at r1
   rw [hy] at r2
   have x0:(x:Int)<(d.size:Int):=by omega
   have y0:(y:Int)<(d.size:Int):=by omega
   have S2:Aside (SWK cc 4 w0 B off (swp dk x y) ((wr.drew.setCells B (off+x * 4) (cc dk[y]!)).setCells B (off+y * 4) (cc dk[x]!))):=S1.out.swapped HR.out x y (by omega) (by omega)
   have HBS:=Lib.hid (show B<wr.heap.size from Nat.lt_of_lt_of_le HR.out.hblk S1.out.le)
   have hX:=swk_cells S1.out HR.out (hsk.trans HS.out) (x:=x) (by omega)
   have hY:=swk_cells S1.out HR.out (hsk.trans HS.out) (x:=y) (by omega)
   have hxy:x<y∧y<4611686018427387904:=by omega
   have HXY:Hid (a+i=x∧b+i=y):=⟨hx,hy⟩
   clear hx hy S1
   generalize dk[x]! = X at S2 hX
   generalize dk[y]! = Y at S2 hY
   have x1:=(hX 0 _ rfl).1
   have x2:=(hX 1 _ rfl).1
   have x3:=(hX 2 _ rfl).1
   have x4:=(hX 3 _ rfl).1
   have y1:=(hY 0 _ rfl).1
   have y2:=(hY 1 _ rfl).1
   have y3:=(hY 2 _ rfl).1
   have y4:=(hY 3 _ rfl).1
   have f1:=(hX 0 _ rfl).2
   have f2:=(hX 1 _ rfl).2
   have f3:=(hX 2 _ rfl).2
   have f4:=(hX 3 _ rfl).2
   have g1:=(hY 0 _ rfl).2
   have g2:=(hY 1 _ rfl).2
   have g3:=(hY 2 _ rfl).2
   have g4:=(hY 3 _ rfl).2
   rw [Nat.add_zero] at x1 y1 f1 g1
   have hBs:B<wr.heap.size:=HBS.out
   clear hX hY
   obtain ⟨xc,xn,xk,xp,_,_,_,_⟩:=X
   obtain ⟨yc,yn,yk,yp,_,_,_,_⟩:=Y
   simp only [cc] at S2
   go_wp2_with fail
   go_big_region_o
   rw [swap8] at S2
   have S3:Aside (SWK cc 4 w0 B off (swp dk x y) _):=S2
   clear S2 x1 x2 x3 x4 y1 y2 y3 y4 f1 f2 f3 f4 g1 g2 g3 g4
   generalize ((((((((wr.setCell ⟨B,off+x * 4,none⟩ (.int .u32 (yc:Int))).setCell ⟨B,off+x * 4+1,none⟩ (.string yn)).setCell ⟨B,off+x * 4+2,none⟩ (.int .u8 (yk:Int))).setCell ⟨B,off+x * 4+3,none⟩ (.int .u32 (yp:Int))).setCell ⟨B,off+y * 4,none⟩ (.int .u32 (xc:Int))).setCell ⟨B,off+y * 4+1,none⟩ (.string xn)).setCell ⟨B,off+y * 4+2,none⟩ (.int .u8 (xk:Int))).setCell ⟨B,off+y * 4+3,none⟩ (.int .u32 (xp:Int))).drew=W3 at S3 ⊢
   go_wp2
   go_roundw
   case rel =>
    refine ⟨i+1,swp dk x y,by go_num,by omega,by rw [size_swp];exact hsk,S3,?_,?_⟩
    ·obtain ⟨e1,e2⟩:=HXY.out
     subst e1 e2
     exact srF_swp hsk hlt hab hb HD.out.1
    ·obtain ⟨e1,e2⟩:=HXY.out
     exact permIn_trans _ _ _ _ _ HD.out.2 (swp_permIn dk a (b+n) x y (by omega) (by omega) (by omega) (by omega) (by omega))
   case measure=>simp [intOf];omega
  ·have hltz:¬ (i:Int)<(n:Int):=by omega
   go_wp2
   go_end0
   have:i=n:=by omega
   subst this
   exact ⟨rfl,dk,hsk,HD.out.1,HD.out.2,S1.out⟩
theorem rotate_a (d0 d:Array Ac) (B off cap a m b:Nat) (fv:Value) (w0 w:World) (R:RowK cc 4 w0 B off d0) (S:SWK cc 4 w0 B off d w) (hs:d.size=d0.size) (ham:a<m) (hmb:m<b) (hb:b≤d.size) (hsz:d.size<4611686018427387904) :
 Calls Tryz.prog 220 #[.slice (some ⟨B,off,none⟩) d.size cap,.int .i64 (a:Int),.int .i64 (m:Int),.int .i64 (b:Int),fv] w fun e w'=>e = .returned (.tuple #[]) ∧ ∃ d':Array Ac,d'.size=d.size∧(∀ t,d'[t]! = rotF d a m b t)∧PermIn a b d d'∧SWK cc 4 w0 B off d' w':=by
 have S0:Aside (SWK cc 4 w0 B off d w):=S
 have HR:Hid (RowK cc 4 w0 B off d0):=R
 have HS:=Lib.hid hs
 have mixed:Tryz.prog.follows .mixedOrders=true:=by kernel_rfl
 have r1:IntKind.i64.wrap ((m:Int)-(a:Int))=((m-a:Nat):Int):=by rw [IntKind.wrap_i64];omega
 have r2:IntKind.i64.wrap ((b:Int)-(m:Int))=((b-m:Nat):Int):=by rw [IntKind.wrap_i64];omega
 clear S R hs
 obtain ⟨i0,hi0⟩:∃ i0,m-a=i0:=⟨_,rfl⟩
 obtain ⟨j0,hj0⟩:∃ j0,b-m=j0:=⟨_,rfl⟩
 rw [hi0] at r1
 rw [hj0] at r2
 have HIJ:Hid (m-a=i0∧b-m=j0):=⟨hi0,hj0⟩
 have K:=Lib.hid (fun (d:Array Ac) (a b n:Nat) (w:World) (S:SWK cc 4 w0 B off d w) (hs:d.size=d0.size) (hab:a+n≤b) (hb:b+n≤d.size) (hsz:d.size<4611686018427387904)=>swap_range d0 d B off cap a b n fv w0 w HR.out S hs hab hb hsz)
 go_enter Tryz.func220,Tryz.ntmps220
 go_wp2_with fail
 go_loopw [10,11] (fun vi vj wr=>∃ (i j:Nat) (dk:Array Ac),vi = .int .i64 i∧vj = .int .i64 j∧0<i∧0<j∧a+i≤m∧m+j≤b∧dk.size=d.size∧Aside (SWK cc 4 w0 B off dk wr)∧Hid ((∀ t,rotF d a m b t=rotF dk (m-i) m (m+j) t)∧PermIn a b d dk))
  (fun vi vj _=>(intOf vi).toNat+(intOf vj).toNat)
 case atStart =>
  refine ⟨i0,j0,d,rfl,rfl,by omega,by omega,by omega,by omega,rfl,S0,fun t=>?_,permIn_refl _ _ _⟩
  rw [show m-i0=a from by omega,show m+j0=b from by omega]
 case round =>
  clear S0 r1 r2 hi0 hj0 HIJ
  obtain ⟨i,j,dk,rfl,rfl,hi,hj,him,hjb,hsk,S1,HD⟩:=hrel
  have q1:IntKind.i64.wrap ((m:Int)-(i:Int))=((m-i:Nat):Int):=by rw [IntKind.wrap_i64];omega
  by_cases hne:i=j
  ·subst hne
   have t0:((i:Int) != (i:Int))=false:=bne_self_eq_false _
   have KS:=Lib.hid (K.out dk (m-i) m i wr S1.out (hsk.trans HS.out) (by omega) (by omega) (by omega))
   rw [hsk] at KS
   obtain ⟨mi,hmi⟩:∃ mi,m-i=mi:=⟨_,rfl⟩
   rw [hmi] at KS q1
   have HMI:=Lib.hid hmi
   clear hmi
   go_wp2_with (go_at_call 243;refine KS.out.mono ?_;rintro e w1 ⟨rfl,hp⟩;have HP:=Lib.hid hp;clear hp)
   go_end0
   obtain ⟨d',h1,h2,h3,h4⟩:=HP.out
   have hmi:=HMI.out
   subst hmi
   refine ⟨rfl,d',h1,fun t=>?_,permIn_trans _ _ _ _ _ HD.out.2 (permIn_mono dk d' (m-i) (m+i) a b (by omega) (by omega) (by omega) h3),h4⟩
   rw [HD.out.1 t]
   exact rot_same (by omega) h2
  ·have t0:((i:Int) != (j:Int))=true:=by rw [bne_iff_ne];omega
   by_cases hij:j<i
   ·have t1:decide ((i:Int) > (j:Int))=true:=decide_eq_true (by omega)
    have t2:(j:Int)<(i:Int):=by omega
    have q2:IntKind.i64.wrap ((i:Int)-(j:Int))=((i-j:Nat):Int):=by rw [IntKind.wrap_i64];omega
    have KS:=Lib.hid (K.out dk (m-i) m j wr S1.out (hsk.trans HS.out) (by omega) (by omega) (by omega))
    rw [hsk] at KS
    obtain ⟨mi,hmi⟩:∃ mi,m-i=mi:=⟨_,rfl⟩
    obtain ⟨ij,hijn⟩:∃ ij,i-j=ij:=⟨_,rfl⟩
    rw [hmi] at KS q1
    rw [hijn] at q2
    have HMI:Hid (m-i=mi∧i-j=ij):=⟨hmi,hijn⟩
    clear hmi hijn
    go_wp2_with (go_at_call 243;refine KS.out.mono ?_;rintro e w1 ⟨rfl,hp⟩;have HP:=Lib.hid hp;clear hp)
    go_roundw
    case rel =>
     obtain ⟨d',h1,h2,h3,h4⟩:=HP.out
     obtain ⟨e1,e2⟩:=HMI.out
     subst e1 e2
     refine ⟨i-j,j,d',rfl,rfl,by omega,hj,by omega,hjb,h1,h4,fun t=>?_,permIn_trans _ _ _ _ _ HD.out.2 (permIn_mono dk d' (m-i) (m+j) a b (by omega) (by omega) (by omega) h3)⟩
     rw [HD.out.1 t]
     exact rot_left hij hj (by omega) h2
    case measure=>have:=HMI.out;simp [intOf];omega
   ·have hji:i<j:=by omega
    have t1:decide ((i:Int) > (j:Int))=false:=decide_eq_false (by omega)
    have t2:¬ (j:Int)<(i:Int):=by omega
    have q2:IntKind.i64.wrap ((j:Int)-(i:Int))=((j-i:Nat):Int):=by rw [IntKind.wrap_i64];omega
    have q3:IntKind.i64.wrap ((m:Int)+(j:Int))=((m+j:Nat):Int):=by rw [IntKind.wrap_i64];omega
    have q4:IntKind.i64.wrap (((m+j:Nat):Int)-(i:Int))=((m+j-i:Nat):Int):=by rw [IntKind.wrap_i64];omega
    have KS:=Lib.hid (K.out dk (m-i) (m+j-i) i wr S1.out (hsk.trans HS.out) (by omega) (by omega) (by omega))
    rw [hsk] at KS
    obtain ⟨ji,hjin⟩:∃ ji,j-i=ji:=⟨_,rfl⟩
    rw [hjin] at q2
    have HJI:=Lib.hid hjin
    clear hjin
    obtain ⟨mj,hmj⟩:∃ mj,m+j=mj:=⟨_,rfl⟩
    obtain ⟨mi,hmi⟩:∃ mi,m-i=mi:=⟨_,rfl⟩
    obtain ⟨mji,hmji⟩:∃ mji,m+j-i=mji:=⟨_,rfl⟩
    rw [hmi,hmji] at KS
    rw [hmi] at q1
    rw [hmj] at q3
    rw [hmj] at q4
    rw [hmj] at hmji
    rw [hmji] at q4
    have HMM:Hid (m+j=mj∧m-i=mi∧mj-i=mji):=⟨hmj,hmi,hmji⟩
    clear hmj hmi hmji
    go_wp2_with (go_at_call 243;refine KS.out.mono ?_;rintro e w1 ⟨rfl,hp⟩;have HP:=Lib.hid hp;clear hp)
    go_roundw
    case rel =>
     obtain ⟨d',h1,h2,h3,h4⟩:=HP.out
     obtain ⟨e1,e2,e3⟩:=HMM.out
     subst e1 e2 e3
     have e4:=HJI.out
     subst e4
     refine ⟨i,j-i,d',rfl,rfl,hi,by omega,him,by omega,h1,h4,fun t=>?_,permIn_trans _ _ _ _ _ HD.out.2 (permIn_mono dk d' (m-i) (m+j-i+i) a b (by omega) (by omega) (by omega) h3)⟩
     rw [HD.out.1 t]
     exact rot_right hji hi (by omega) h2
    case measure=>have:=HJI.out;simp [intOf];omega
def cfA (x y:Ac):Int:=(x.code:Int)-(y.code:Int)
abbrev ltA:Ac→Ac→Bool:=ltOf cfA
theorem ltA_iff (x y:Ac):ltA x y=decide (x.code<y.code):=by
 unfold ltA ltOf cfA
 rw [Bool.eq_iff_iff]
 simp only [decide_eq_true_eq]
 omega
theorem swo_a:SWO ltA:=⟨fun x=>by rw [ltA_iff];simp,fun x y z=>by rw [ltA_iff,ltA_iff,ltA_iff];simp only [decide_eq_true_eq];omega,fun x y z=>by rw [ltA_iff,ltA_iff,ltA_iff];simp only [decide_eq_false_iff_not];omega⟩
theorem order_a (x y:Ac) (W:World):Calls Tryz.prog 97 #[cv x,cv y] W fun e w'=>e = .returned (.int .i64 (cfA x y)) ∧ ∃ q os,w'=grow (W.drewN q) os:=by
 have hw:IntKind.i64.wrap ((x.code:Int)-(y.code:Int))=cfA x y:=by
  have:=x.hc;have:=y.hc
  rw [IntKind.wrap_i64];unfold cfA;omega
 have h1:IntKind.i64.wrap (x.code:Int)=(x.code:Int):=by have:=x.hc;rw [IntKind.wrap_i64];omega
 have h2:IntKind.i64.wrap (y.code:Int)=(y.code:Int):=by have:=y.hc;rw [IntKind.wrap_i64];omega
 generalize cfA x y=z at *
 unfold cv at *
 obtain ⟨xc,xn,xk,xp,_,_,_,_⟩:=x
 obtain ⟨yc,yn,yk,yp,_,_,_,_⟩:=y
 simp only at hw h1 h2 ⊢
 go_enter Tryz.func97,Tryz.ntmps97
 go_wp2
 go_ret
 refine ⟨rfl,0,#[.cells #[.int .u32 (xc:Int),.string xn,.int .u8 (xk:Int),.int .u32 (xp:Int)] 82] ++ #[.cells #[.int .u32 (yc:Int),.string yn,.int .u8 (yk:Int),.int .u32 (yp:Int)] 82],?_⟩
 rw [alloc_eq_grow,alloc_eq_grow,grow_grow]
 rfl
theorem lays_a (B off size:Nat) (w:World):CmpLays Tryz.prog 97 #[] cc 4 cfA B off size w:=fun m os dk _ x y=>order_a x y _
theorem merged_none {d:Array Ac} {a s m:Nat} (h:a=s∨s=m):Merged ltA d a s m d:=⟨permIn_refl _ _ _,fun h1 h2=>by
 rcases h with rfl | rfl
 ·exact h2
 ·exact h1⟩
theorem sym_one (d0:Array Ac) (B off cap L:Nat) (w0:World) (R:RowK cc 4 w0 B off d0) (hL:d0.size=L) (hsz:L≤1000000) (d:Array Ac) (a m b:Nat) (w:World) (S:SWK cc 4 w0 B off d w) (hs:d.size=d0.size) (ham:a<m) (hmb:m<b) (hb:b≤L) (h1:m-a=1) :
 Calls Tryz.prog 188 #[.slice (some ⟨B,off,none⟩) L cap,.int .i64 (a:Int),.int .i64 (m:Int),.int .i64 (b:Int),.func (.func 97) #[] #[]] w fun e w'=>e = .returned (.tuple #[]) ∧ ∃ d':Array Ac,d'.size=d0.size∧Merged ltA d a m b d'∧SWK cc 4 w0 B off d' w':=by
 have HC:=Lib.hid (lays_a B off d0.size w0)
 have S0:Aside (SWK cc 4 w0 B off d w):=S
 have HR:Hid (RowK cc 4 w0 B off d0):=R
 have HS:=Lib.hid hs
 have hdl:d.size=L:=by omega
 have HL:=Lib.hid hL
 have mixed:Tryz.prog.follows .mixedOrders=true:=by kernel_rfl
 clear S R hs hL
 have r1:IntKind.i64.wrap ((m:Int)-(a:Int))=((m-a:Nat):Int):=by rw [IntKind.wrap_i64];omega
 have r2:IntKind.i64.wrap ((b:Int)-(m:Int))=((b-m:Nat):Int):=by rw [IntKind.wrap_i64];omega
 obtain ⟨ma,hma⟩:∃ k,m-a=k:=⟨_,rfl⟩
 obtain ⟨bm,hbm⟩:∃ k,b-m=k:=⟨_,rfl⟩
 rw [hma] at r1
 rw [hbm] at r2
 have HDL:=Lib.hid hdl
 clear hdl
 rw [hma] at h1
 go_enter Tryz.func188,Tryz.ntmps188
 focus
  have t1:((ma:Int) == 1)=true:=by rw [h1];rfl
  have HM:Hid (m=a+1):=show m=a+1 by omega
  clear hma h1
  go_wp2_with fail
  clear t1 r1 r2 hbm
  go_loopw [10,11,12] (fun vi vj vh wr=>∃ (i j:Nat),vi = .int .i64 i∧vj = .int .i64 j∧m≤i∧i≤j∧j≤b∧Aside (SWK cc 4 w0 B off d wr)∧Hid (SortedIn ltA m b d→Half (fun t=>ltA d[t]! d[a]!) m i j b))
   (fun vi vj _ _=>(intOf vj).toNat-(intOf vi).toNat)
  case atStart=>exact ⟨m,b,rfl,rfl,by omega,by omega,by omega,S0,fun _=>Half.start⟩
  case round =>
   clear S0
   obtain ⟨i,j,rfl,rfl,hi,hij,hj,S1,HD⟩:=hrel
   by_cases hlt:i<j
   ·have hltz:(i:Int)<(j:Int):=by omega
    obtain ⟨h,hh⟩:∃ h,(i+j) / 2=h:=⟨_,rfl⟩
    have hhz:((i:Int)+(j:Int)) / 2=(h:Int):=by omega
    have hih:i≤h:=by omega
    have hhj:h<j:=by omega
    clear hh
    cases hv:ltA d[h]! d[a]! with
    | true =>
     have hz0:h<d.size:=by have:=HDL.out;omega
     have hz1:a<d.size:=by have:=HDL.out;omega
     have hz2:(h:Int)<(L:Int):=by omega
     have hz3:(a:Int)<(L:Int):=by omega
     have hz4:IntKind.i64.wrap ((h:Int)+1)=((h+1:Nat):Int):=by rw [IntKind.wrap_i64];omega
     have hX:=fun (n:Nat) (os:Array Obj)=>swk_cells (S1.out.grown n os) HR.out HS.out (x:=h) (by omega)
     have hY:=fun (n:Nat) (os:Array Obj)=>swk_cells (S1.out.grown n os) HR.out HS.out (x:=a) (by omega)
     have hc:=S1.out.cmp HC.out HS.out d[h]! d[a]!
     have hsg:cfA d[h]! d[a]! < 0:=of_decide_eq_true hv
     have HV:=Lib.hid hv
     clear hv
     obtain ⟨PX,hPX⟩:∃ P,d[h]! = P:=⟨_,rfl⟩
     rw [hPX] at hX hc hsg
     clear hPX
     obtain ⟨PY,hPY⟩:∃ P,d[a]! = P:=⟨_,rfl⟩
     rw [hPY] at hY hc hsg
     clear hPY
     have x1:=fun (n:Nat) (os:Array Obj)=>(hX n os 0 _ rfl).1
     have x2:=fun (n:Nat) (os:Array Obj)=>(hX n os 1 _ rfl).1
     have x3:=fun (n:Nat) (os:Array Obj)=>(hX n os 2 _ rfl).1
     have x4:=fun (n:Nat) (os:Array Obj)=>(hX n os 3 _ rfl).1
     have y1:=fun (n:Nat) (os:Array Obj)=>(hY n os 0 _ rfl).1
     have y2:=fun (n:Nat) (os:Array Obj)=>(hY n os 1 _ rfl).1
     have y3:=fun (n:Nat) (os:Array Obj)=>(hY n os 2 _ rfl).1
     have y4:=fun (n:Nat) (os:Array Obj)=>(hY n os 3 _ rfl).1
     simp only [Nat.add_zero] at x1 y1
     clear hX hY
     generalize cfA PX PY=z at hc hsg
     obtain ⟨xc,xn,xk,xp,_,_,_,_⟩:=PX
     obtain ⟨yc,yn,yk,yp,_,_,_,_⟩:=PY
     simp only [cc,Array.append_empty] at hc
     simp only [cc] at x1 x2 x3 x4 y1 y2 y3 y4
     have hd:decide (z<0)=true:=decide_eq_true hsg
     go_wp2_with fail
     go_quiet_grown (first | (go_at_call 97;refine Calls.grown_of (hc _ _)))
     have S2:Aside (SWK cc 4 w0 B off d _):=S1.out.grown nq osq
     clear x1 x2 x3 x4 y1 y2 y3 y4 hc S1
     generalize grow (wr.drewN nq) osq=w2 at S2 ⊢
     clear nq osq hd hsg
     go_wp2
     go_roundw
     case rel=>exact ⟨h+1,j,by go_num,rfl,by omega,by omega,hj,S2,fun hs=>(HD.out hs).up (mono_one swo_a hs) hih hhj hj HV.out⟩
     case measure=>simp [intOf];omega
    | false =>
     have hz0:h<d.size:=by have:=HDL.out;omega
     have hz1:a<d.size:=by have:=HDL.out;omega
     have hz2:(h:Int)<(L:Int):=by omega
     have hz3:(a:Int)<(L:Int):=by omega
     have hX:=fun (n:Nat) (os:Array Obj)=>swk_cells (S1.out.grown n os) HR.out HS.out (x:=h) (by omega)
     have hY:=fun (n:Nat) (os:Array Obj)=>swk_cells (S1.out.grown n os) HR.out HS.out (x:=a) (by omega)
     have hc:=S1.out.cmp HC.out HS.out d[h]! d[a]!
     have hsg:¬ cfA d[h]! d[a]! < 0:=of_decide_eq_false hv
     have HV:=Lib.hid hv
     clear hv
     obtain ⟨PX,hPX⟩:∃ P,d[h]! = P:=⟨_,rfl⟩
     rw [hPX] at hX hc hsg
     clear hPX
     obtain ⟨PY,hPY⟩:∃ P,d[a]! = P:=⟨_,rfl⟩
     rw [hPY] at hY hc hsg
     clear hPY
     have x1:=fun (n:Nat) (os:Array Obj)=>(hX n os 0 _ rfl).1
     have x2:=fun (n:Nat) (os:Array Obj)=>(hX n os 1 _ rfl).1
     have x3:=fun (n:Nat) (os:Array Obj)=>(hX n os 2 _ rfl).1
     have x4:=fun (n:Nat) (os:Array Obj)=>(hX n os 3 _ rfl).1
     have y1:=fun (n:Nat) (os:Array Obj)=>(hY n os 0 _ rfl).1
     have y2:=fun (n:Nat) (os:Array Obj)=>(hY n os 1 _ rfl).1
     have y3:=fun (n:Nat) (os:Array Obj)=>(hY n os 2 _ rfl).1
     have y4:=fun (n:Nat) (os:Array Obj)=>(hY n os 3 _ rfl).1
     simp only [Nat.add_zero] at x1 y1
     clear hX hY
     generalize cfA PX PY=z at hc hsg
     obtain ⟨xc,xn,xk,xp,_,_,_,_⟩:=PX
     obtain ⟨yc,yn,yk,yp,_,_,_,_⟩:=PY
     simp only [cc,Array.append_empty] at hc
     simp only [cc] at x1 x2 x3 x4 y1 y2 y3 y4
     have hd:decide (z<0)=false:=decide_eq_false hsg
     go_wp2_with fail
     go_quiet_grown (first | (go_at_call 97;refine Calls.grown_of (hc _ _)))
     have S2:Aside (SWK cc 4 w0 B off d _):=S1.out.grown nq osq
     clear x1 x2 x3 x4 y1 y2 y3 y4 hc S1
     generalize grow (wr.drewN nq) osq=w2 at S2 ⊢
     clear nq osq hd hsg
     go_wp2
     go_roundw
     case rel=>exact ⟨i,h,rfl,by go_num,hi,by omega,by omega,S2,fun hs=>(HD.out hs).down (mono_one swo_a hs) hih hhj hi HV.out⟩
     case measure=>simp [intOf];omega
   ·have hltz:¬ (i:Int)<(j:Int):=by omega
    obtain rfl:i=j:=by omega
    go_wp2_with fail
    obtain ⟨i1,hi1⟩:∃ k,i-1=k:=⟨_,rfl⟩
    have ri:IntKind.i64.wrap ((i:Int)-1)=(i1:Int):=by rw [IntKind.wrap_i64];omega
    have HI1:=Lib.hid hi1
    clear hi1
    go_loopw [13] (fun vk wr=>∃ (k:Nat) (dk:Array Ac),vk = .int .i64 k∧a≤k∧k≤i1∧Aside (SWK cc 4 w0 B off dk wr)∧Hid (dk.size=d0.size)∧Hid ((∀ t,dk[t]! = if a≤t∧t<k then d[t+1]! else if t=k then d[a]! else d[t]!)∧PermIn a b d dk))
     (fun vk _=>i1-(intOf vk).toNat)
    case atStart =>
     refine ⟨a,d,rfl,by omega,by have:=HI1.out;omega,S1,HS.out,fun t=>?_,permIn_refl _ _ _⟩
     rw [if_neg (by omega)]
     split
     ·rename_i e;rw [e]
     ·rfl
    case round =>
     clear S1
     obtain ⟨k,dk,rfl,hak,hki,S2,HSK,HP⟩:=hrel
     by_cases hk:k<i1
     ·have hkz:(k:Int)<(i1:Int):=by omega
      have hib:i1<L:=by have:=HI1.out;omega
      obtain ⟨k1,hk1⟩:∃ q,k+1=q:=⟨_,rfl⟩
      have rk:IntKind.i64.wrap ((k:Int)+1)=(k1:Int):=by rw [IntKind.wrap_i64];omega
      have q0:(k:Int)<(L:Int):=by omega
      have q1:(k1:Int)<(L:Int):=by omega
      have q2:k<dk.size:=by have:=HSK.out;have:=HL.out;omega
      have q3:k1<dk.size:=by have:=HSK.out;have:=HL.out;omega
      have q4:k<k1:=by omega
      have HK1:=Lib.hid hk1
      clear hk1
      have SW2:Aside (SWK cc 4 w0 B off (swp dk k k1) ((wr.drew.setCells B (off+k * 4) (cc dk[k1]!)).setCells B (off+k1 * 4) (cc dk[k]!))):=S2.out.swapped HR.out k k1 (by omega) (by omega)
      have hBs:B<wr.heap.size:=Nat.lt_of_lt_of_le HR.out.hblk S2.out.le
      have hX:=swk_cells S2.out HR.out HSK.out (x:=k) (by omega)
      have hY:=swk_cells S2.out HR.out HSK.out (x:=k1) (by omega)
      clear S2
      obtain ⟨PX,hPX⟩:∃ P,dk[k]! = P:=⟨_,rfl⟩
      rw [hPX] at hX SW2
      clear hPX
      obtain ⟨PY,hPY⟩:∃ P,dk[k1]! = P:=⟨_,rfl⟩
      rw [hPY] at hY SW2
      clear hPY
      have x1:=(hX 0 _ rfl).1
      have x2:=(hX 1 _ rfl).1
      have x3:=(hX 2 _ rfl).1
      have x4:=(hX 3 _ rfl).1
      have y1:=(hY 0 _ rfl).1
      have y2:=(hY 1 _ rfl).1
      have y3:=(hY 2 _ rfl).1
      have y4:=(hY 3 _ rfl).1
      have f1:=(hX 0 _ rfl).2
      have f2:=(hX 1 _ rfl).2
      have f3:=(hX 2 _ rfl).2
      have f4:=(hX 3 _ rfl).2
      have g1:=(hY 0 _ rfl).2
      have g2:=(hY 1 _ rfl).2
      have g3:=(hY 2 _ rfl).2
      have g4:=(hY 3 _ rfl).2
      rw [Nat.add_zero] at x1 y1 f1 g1
      clear hX hY
      obtain ⟨xc,xn,xk,xp,_,_,_,_⟩:=PX
      obtain ⟨yc,yn,yk,yp,_,_,_,_⟩:=PY
      simp only [cc] at SW2
      go_wp2_with fail
      go_big_region_o
      rw [swap8] at SW2
      have S3:Aside (SWK cc 4 w0 B off (swp dk k k1) _):=SW2
      clear SW2 x1 x2 x3 x4 y1 y2 y3 y4 f1 f2 f3 f4 g1 g2 g3 g4 hBs
      generalize ((((((((wr.setCell ⟨B,off+k * 4,none⟩ (.int .u32 (yc:Int))).setCell ⟨B,off+k * 4+1,none⟩ (.string yn)).setCell ⟨B,off+k * 4+2,none⟩ (.int .u8 (yk:Int))).setCell ⟨B,off+k * 4+3,none⟩ (.int .u32 (yp:Int))).setCell ⟨B,off+k1 * 4,none⟩ (.int .u32 (xc:Int))).setCell ⟨B,off+k1 * 4+1,none⟩ (.string xn)).setCell ⟨B,off+k1 * 4+2,none⟩ (.int .u8 (xk:Int))).setCell ⟨B,off+k1 * 4+3,none⟩ (.int .u32 (xp:Int))).drew=w3 at S3 ⊢
      go_wp2
      go_roundw
      case rel =>
       have hk1:=HK1.out
       subst hk1
       refine ⟨k+1,swp dk k (k+1),by go_num,by omega,by omega,S3,by rw [show (swp dk k (k+1)).size=dk.size from size_swp _ _ _];exact HSK.out,fun t=>?_,permIn_trans _ _ _ _ _ HP.out.2 (swp_permIn dk a b k (k+1) hak (by have:=HI1.out;omega) (by omega) (by have:=HI1.out;omega) (by have:=HSK.out;have:=HL.out;omega))⟩
       have hf:=HP.out.1
       rw [swp_get dk q2 q3,hf t,hf (k+1),hf k]
       rw [if_neg (show ¬ (a≤k+1∧k+1<k) by omega),if_neg (show ¬ k+1=k by omega),if_neg (show ¬ (a≤k∧k<k) by omega),if_pos rfl]
       by_cases e1:t=k+1
       ·rw [if_pos e1,if_neg (show ¬ (a≤t∧t<k+1) by omega),if_pos e1]
       ·rw [if_neg e1]
        by_cases e2:t=k
        ·rw [if_pos e2,if_pos (show a≤t∧t<k+1 by omega),e2]
        ·rw [if_neg e2,if_neg e2,if_neg e1]
         by_cases e3:a≤t∧t<k
         ·rw [if_pos e3,if_pos (show a≤t∧t<k+1 by omega)]
         ·rw [if_neg e3,if_neg (show ¬ (a≤t∧t<k+1) by omega)]
      case measure=>have:=HK1.out;simp [intOf];omega
     ·have hkz:¬ (k:Int)<(i1:Int):=by omega
      go_wp2
      refine bodyPost_ret (v:=.tuple #[]) (by simp [results,Tryz.results188,go_sem]) rfl ?_
      have hm:=HM.out
      have hi1:=HI1.out
      obtain rfl:k=i-1:=by omega
      subst hm
      exact ⟨rfl,dk,HSK.out,merged_one swo_a HP.out.2 (by omega) hj HP.out.1 (fun hs=>HD.out hs),S2.out⟩
theorem sym_other (d0:Array Ac) (B off cap L:Nat) (w0:World) (R:RowK cc 4 w0 B off d0) (hL:d0.size=L) (hsz:L≤1000000) (d:Array Ac) (a m b:Nat) (w:World) (S:SWK cc 4 w0 B off d w) (hs:d.size=d0.size) (ham:a<m) (hmb:m<b) (hb:b≤L) (h1:m-a≠1) (h2:b-m=1) :
 Calls Tryz.prog 188 #[.slice (some ⟨B,off,none⟩) L cap,.int .i64 (a:Int),.int .i64 (m:Int),.int .i64 (b:Int),.func (.func 97) #[] #[]] w fun e w'=>e = .returned (.tuple #[]) ∧ ∃ d':Array Ac,d'.size=d0.size∧Merged ltA d a m b d'∧SWK cc 4 w0 B off d' w':=by
 have HC:=Lib.hid (lays_a B off d0.size w0)
 have S0:Aside (SWK cc 4 w0 B off d w):=S
 have HR:Hid (RowK cc 4 w0 B off d0):=R
 have HS:=Lib.hid hs
 have hdl:d.size=L:=by omega
 have HL:=Lib.hid hL
 have mixed:Tryz.prog.follows .mixedOrders=true:=by kernel_rfl
 clear S R hs hL
 have r1:IntKind.i64.wrap ((m:Int)-(a:Int))=((m-a:Nat):Int):=by rw [IntKind.wrap_i64];omega
 have r2:IntKind.i64.wrap ((b:Int)-(m:Int))=((b-m:Nat):Int):=by rw [IntKind.wrap_i64];omega
 obtain ⟨ma,hma⟩:∃ k,m-a=k:=⟨_,rfl⟩
 obtain ⟨bm,hbm⟩:∃ k,b-m=k:=⟨_,rfl⟩
 rw [hma] at r1
 rw [hbm] at r2
 have HDL:=Lib.hid hdl
 clear hdl
 rw [hma] at h1
 rw [hbm] at h2
 go_enter Tryz.func188,Tryz.ntmps188
 focus
  have t1:((ma:Int) == 1)=false:=by rw [beq_eq_false_iff_ne];omega
  focus
   have t2:((bm:Int) == 1)=true:=by rw [h2];rfl
   have HM:Hid (b=m+1):=show b=m+1 by omega
   clear hbm h2
   go_wp2_with fail
   clear t1 t2 r1 r2 hma h1
   go_loopw [14,15,16] (fun vi vj vh wr=>∃ (i j:Nat),vi = .int .i64 i∧vj = .int .i64 j∧a≤i∧i≤j∧j≤m∧Aside (SWK cc 4 w0 B off d wr)∧Hid (SortedIn ltA a m d→Half (fun t=>!(ltA d[m]! d[t]!)) a i j m))
    (fun vi vj _ _=>(intOf vj).toNat-(intOf vi).toNat)
   case atStart=>exact ⟨a,m,rfl,rfl,by omega,by omega,by omega,S0,fun _=>Half.start⟩
   case round =>
    clear S0
    obtain ⟨i,j,rfl,rfl,hi,hij,hj,S1,HD⟩:=hrel
    by_cases hlt:i<j
    ·have hltz:(i:Int)<(j:Int):=by omega
     obtain ⟨h,hh⟩:∃ h,(i+j) / 2=h:=⟨_,rfl⟩
     have hhz:((i:Int)+(j:Int)) / 2=(h:Int):=by omega
     have hih:i≤h:=by omega
     have hhj:h<j:=by omega
     clear hh
     cases hv:ltA d[m]! d[h]! with
     | false =>
      have hz0:h<d.size:=by have:=HDL.out;omega
      have hz1:m<d.size:=by have:=HDL.out;omega
      have hz2:(h:Int)<(L:Int):=by omega
      have hz3:(m:Int)<(L:Int):=by omega
      have hz4:IntKind.i64.wrap ((h:Int)+1)=((h+1:Nat):Int):=by rw [IntKind.wrap_i64];omega
      have hX:=fun (n:Nat) (os:Array Obj)=>swk_cells (S1.out.grown n os) HR.out HS.out (x:=m) (by omega)
      have hY:=fun (n:Nat) (os:Array Obj)=>swk_cells (S1.out.grown n os) HR.out HS.out (x:=h) (by omega)
      have hc:=S1.out.cmp HC.out HS.out d[m]! d[h]!
      have hsg:¬ cfA d[m]! d[h]! < 0:=of_decide_eq_false hv
      have HV:=Lib.hid hv
      clear hv
      obtain ⟨PX,hPX⟩:∃ P,d[m]! = P:=⟨_,rfl⟩
      rw [hPX] at hX hc hsg
      clear hPX
      obtain ⟨PY,hPY⟩:∃ P,d[h]! = P:=⟨_,rfl⟩
      rw [hPY] at hY hc hsg
      clear hPY
      have x1:=fun (n:Nat) (os:Array Obj)=>(hX n os 0 _ rfl).1
      have x2:=fun (n:Nat) (os:Array Obj)=>(hX n os 1 _ rfl).1
      have x3:=fun (n:Nat) (os:Array Obj)=>(hX n os 2 _ rfl).1
      have x4:=fun (n:Nat) (os:Array Obj)=>(hX n os 3 _ rfl).1
      have y1:=fun (n:Nat) (os:Array Obj)=>(hY n os 0 _ rfl).1
      have y2:=fun (n:Nat) (os:Array Obj)=>(hY n os 1 _ rfl).1
      have y3:=fun (n:Nat) (os:Array Obj)=>(hY n os 2 _ rfl).1
      have y4:=fun (n:Nat) (os:Array Obj)=>(hY n os 3 _ rfl).1
      simp only [Nat.add_zero] at x1 y1
      clear hX hY
      generalize cfA PX PY=z at hc hsg
      obtain ⟨xc,xn,xk,xp,_,_,_,_⟩:=PX
      obtain ⟨yc,yn,yk,yp,_,_,_,_⟩:=PY
      simp only [cc,Array.append_empty] at hc
      simp only [cc] at x1 x2 x3 x4 y1 y2 y3 y4
      have hd:decide (z<0)=false:=decide_eq_false hsg
      go_wp2_with fail
      go_quiet_grown (first | (go_at_call 97;refine Calls.grown_of (hc _ _)))
      have S2:Aside (SWK cc 4 w0 B off d _):=S1.out.grown nq osq
      clear x1 x2 x3 x4 y1 y2 y3 y4 hc S1
      generalize grow (wr.drewN nq) osq=w2 at S2 ⊢
      clear nq osq hd hsg
      go_wp2
      go_roundw
      case rel=>exact ⟨h+1,j,by go_num,rfl,by omega,by omega,hj,S2,fun hs=>(HD.out hs).up (mono_other swo_a hs) hih hhj hj (by rw [HV.out];rfl)⟩
      case measure=>simp [intOf];omega
     | true =>
      have hz0:h<d.size:=by have:=HDL.out;omega
      have hz1:m<d.size:=by have:=HDL.out;omega
      have hz2:(h:Int)<(L:Int):=by omega
      have hz3:(m:Int)<(L:Int):=by omega
      have hX:=fun (n:Nat) (os:Array Obj)=>swk_cells (S1.out.grown n os) HR.out HS.out (x:=m) (by omega)
      have hY:=fun (n:Nat) (os:Array Obj)=>swk_cells (S1.out.grown n os) HR.out HS.out (x:=h) (by omega)
      have hc:=S1.out.cmp HC.out HS.out d[m]! d[h]!
      have hsg:cfA d[m]! d[h]! < 0:=of_decide_eq_true hv
      have HV:=Lib.hid hv
      clear hv
      obtain ⟨PX,hPX⟩:∃ P,d[m]! = P:=⟨_,rfl⟩
      rw [hPX] at hX hc hsg
      clear hPX
      obtain ⟨PY,hPY⟩:∃ P,d[h]! = P:=⟨_,rfl⟩
      rw [hPY] at hY hc hsg
      clear hPY
      have x1:=fun (n:Nat) (os:Array Obj)=>(hX n os 0 _ rfl).1
      have x2:=fun (n:Nat) (os:Array Obj)=>(hX n os 1 _ rfl).1
      have x3:=fun (n:Nat) (os:Array Obj)=>(hX n os 2 _ rfl).1
      have x4:=fun (n:Nat) (os:Array Obj)=>(hX n os 3 _ rfl).1
      have y1:=fun (n:Nat) (os:Array Obj)=>(hY n os 0 _ rfl).1
      have y2:=fun (n:Nat) (os:Array Obj)=>(hY n os 1 _ rfl).1
      have y3:=fun (n:Nat) (os:Array Obj)=>(hY n os 2 _ rfl).1
      have y4:=fun (n:Nat) (os:Array Obj)=>(hY n os 3 _ rfl).1
      simp only [Nat.add_zero] at x1 y1
      clear hX hY
      generalize cfA PX PY=z at hc hsg
      obtain ⟨xc,xn,xk,xp,_,_,_,_⟩:=PX
      obtain ⟨yc,yn,yk,yp,_,_,_,_⟩:=PY
      simp only [cc,Array.append_empty] at hc
      simp only [cc] at x1 x2 x3 x4 y1 y2 y3 y4
      have hd:decide (z<0)=true:=decide_eq_true hsg
      go_wp2_with fail
      go_quiet_grown (first | (go_at_call 97;refine Calls.grown_of (hc _ _)))
      have S2:Aside (SWK cc 4 w0 B off d _):=S1.out.grown nq osq
      clear x1 x2 x3 x4 y1 y2 y3 y4 hc S1
      generalize grow (wr.drewN nq) osq=w2 at S2 ⊢
      clear nq osq hd hsg
      go_wp2
      go_roundw
      case rel=>exact ⟨i,h,rfl,by go_num,hi,by omega,by omega,S2,fun hs=>(HD.out hs).down (mono_other swo_a hs) hih hhj hi (by rw [HV.out];rfl)⟩
      case measure=>simp [intOf];omega
    ·have hltz:¬ (i:Int)<(j:Int):=by omega
     obtain rfl:i=j:=by omega
     go_wp2_with fail
     go_loopw [17] (fun vk wr=>∃ (k:Nat) (dk:Array Ac),vk = .int .i64 k∧i≤k∧k≤m∧Aside (SWK cc 4 w0 B off dk wr)∧Hid (dk.size=d0.size)∧Hid ((∀ t,dk[t]! = if k<t∧t≤m then d[t-1]! else if t=k then d[m]! else d[t]!)∧PermIn a b d dk))
      (fun vk _=>(intOf vk).toNat-i)
     case atStart =>
      refine ⟨m,d,rfl,by omega,by omega,S1,HS.out,fun t=>?_,permIn_refl _ _ _⟩
      rw [if_neg (by omega)]
      split
      ·rename_i e;rw [e]
      ·rfl
     case round =>
      clear S1
      obtain ⟨k,dk,rfl,hik,hkm,S2,HSK,HP⟩:=hrel
      by_cases hk:i<k
      ·have hkz:(i:Int)<(k:Int):=by omega
       obtain ⟨k1,hk1⟩:∃ q,k-1=q:=⟨_,rfl⟩
       have rk:IntKind.i64.wrap ((k:Int)-1)=(k1:Int):=by rw [IntKind.wrap_i64];omega
       have q0:(k:Int)<(L:Int):=by omega
       have q1:(k1:Int)<(L:Int):=by omega
       have q2:k<dk.size:=by have:=HSK.out;have:=HL.out;omega
       have q3:k1<dk.size:=by have:=HSK.out;have:=HL.out;omega
       have q4:k1<k:=by omega
       have HK1:=Lib.hid hk1
       clear hk1
       have SW2:Aside (SWK cc 4 w0 B off (swp dk k k1) ((wr.drew.setCells B (off+k * 4) (cc dk[k1]!)).setCells B (off+k1 * 4) (cc dk[k]!))):=S2.out.swapped HR.out k k1 (by omega) (by omega)
       have hBs:B<wr.heap.size:=Nat.lt_of_lt_of_le HR.out.hblk S2.out.le
       have hX:=swk_cells S2.out HR.out HSK.out (x:=k) (by omega)
       have hY:=swk_cells S2.out HR.out HSK.out (x:=k1) (by omega)
       clear S2
       obtain ⟨PX,hPX⟩:∃ P,dk[k]! = P:=⟨_,rfl⟩
       rw [hPX] at hX SW2
       clear hPX
       obtain ⟨PY,hPY⟩:∃ P,dk[k1]! = P:=⟨_,rfl⟩
       rw [hPY] at hY SW2
       clear hPY
       have x1:=(hX 0 _ rfl).1
       have x2:=(hX 1 _ rfl).1
       have x3:=(hX 2 _ rfl).1
       have x4:=(hX 3 _ rfl).1
       have y1:=(hY 0 _ rfl).1
       have y2:=(hY 1 _ rfl).1
       have y3:=(hY 2 _ rfl).1
       have y4:=(hY 3 _ rfl).1
       have f1:=(hX 0 _ rfl).2
       have f2:=(hX 1 _ rfl).2
       have f3:=(hX 2 _ rfl).2
       have f4:=(hX 3 _ rfl).2
       have g1:=(hY 0 _ rfl).2
       have g2:=(hY 1 _ rfl).2
       have g3:=(hY 2 _ rfl).2
       have g4:=(hY 3 _ rfl).2
       rw [Nat.add_zero] at x1 y1 f1 g1
       clear hX hY
       obtain ⟨xc,xn,xk,xp,_,_,_,_⟩:=PX
       obtain ⟨yc,yn,yk,yp,_,_,_,_⟩:=PY
       simp only [cc] at SW2
       go_wp2_with fail
       go_big_region_o
       rw [swap8] at SW2
       have S3:Aside (SWK cc 4 w0 B off (swp dk k k1) _):=SW2
       clear SW2 x1 x2 x3 x4 y1 y2 y3 y4 f1 f2 f3 f4 g1 g2 g3 g4 hBs
       generalize ((((((((wr.setCell ⟨B,off+k * 4,none⟩ (.int .u32 (yc:Int))).setCell ⟨B,off+k * 4+1,none⟩ (.string yn)).setCell ⟨B,off+k * 4+2,none⟩ (.int .u8 (yk:Int))).setCell ⟨B,off+k * 4+3,none⟩ (.int .u32 (yp:Int))).setCell ⟨B,off+k1 * 4,none⟩ (.int .u32 (xc:Int))).setCell ⟨B,off+k1 * 4+1,none⟩ (.string xn)).setCell ⟨B,off+k1 * 4+2,none⟩ (.int .u8 (xk:Int))).setCell ⟨B,off+k1 * 4+3,none⟩ (.int .u32 (xp:Int))).drew=w3 at S3 ⊢
       go_wp2
       go_roundw
       case rel =>
        have hk1:=HK1.out
        obtain rfl:k=k1+1:=by omega
        refine ⟨k1,swp dk (k1+1) k1,by go_num,by omega,by omega,S3,by rw [show (swp dk (k1+1) k1).size=dk.size from size_swp _ _ _];exact HSK.out,fun t=>?_,permIn_trans _ _ _ _ _ HP.out.2 (swp_permIn dk a b (k1+1) k1 (by omega) (by have:=HM.out;omega) (by omega) (by have:=HM.out;omega) (by have:=HSK.out;have:=HL.out;omega))⟩
        have hf:=HP.out.1
        rw [swp_get dk q2 q3,hf t,hf (k1+1),hf k1]
        rw [if_neg (show ¬ (k1+1<k1∧k1≤m) by omega),if_neg (show ¬ k1=k1+1 by omega),if_neg (show ¬ (k1+1<k1+1∧k1+1≤m) by omega),if_pos rfl]
        by_cases e1:t=k1
        ·rw [if_pos e1,if_neg (show ¬ (k1<t∧t≤m) by omega),if_pos e1]
        ·rw [if_neg e1]
         by_cases e2:t=k1+1
         ·rw [if_pos e2,if_pos (show k1<t∧t≤m by omega),e2,Nat.add_sub_cancel]
         ·rw [if_neg e2,if_neg e2,if_neg e1]
          by_cases e3:k1+1<t∧t≤m
          ·rw [if_pos e3,if_pos (show k1<t∧t≤m by omega)]
          ·rw [if_neg e3,if_neg (show ¬ (k1<t∧t≤m) by omega)]
       case measure=>have:=HK1.out;simp [intOf];omega
      ·have hkz:¬ (i:Int)<(k:Int):=by omega
       go_wp2
       refine bodyPost_ret (v:=.tuple #[]) (by simp [results,Tryz.results188,go_sem]) rfl ?_
       have hm:=HM.out
       obtain rfl:k=i:=by omega
       subst hm
       exact ⟨rfl,dk,HSK.out,merged_other swo_a HP.out.2 (by omega) hj HP.out.1 (fun hs=>HD.out hs),S2.out⟩
theorem sym_gen (d0:Array Ac) (B off cap L:Nat) (w0:World) (R:RowK cc 4 w0 B off d0) (hL:d0.size=L) (hsz:L≤1000000) (d:Array Ac) (a m b:Nat) (w:World) (S:SWK cc 4 w0 B off d w) (hs:d.size=d0.size) (ham:a<m) (hmb:m<b) (hb:b≤L) (h1:m-a≠1) (h2:b-m≠1) (hM:∀ (d:Array Ac) (a' m' b':Nat) (w:World),b'-a'<b-a→SWK cc 4 w0 B off d w→d.size=d0.size→a'<m'→m'<b'→b'≤L→Calls Tryz.prog 188 #[.slice (some ⟨B,off,none⟩) L cap,.int .i64 (a':Int),.int .i64 (m':Int),.int .i64 (b':Int),.func (.func 97) #[] #[]] w fun e w'=>e = .returned (.tuple #[]) ∧ ∃ d':Array Ac,d'.size=d0.size∧Merged ltA d a' m' b' d'∧SWK cc 4 w0 B off d' w') :
 Calls Tryz.prog 188 #[.slice (some ⟨B,off,none⟩) L cap,.int .i64 (a:Int),.int .i64 (m:Int),.int .i64 (b:Int),.func (.func 97) #[] #[]] w fun e w'=>e = .returned (.tuple #[]) ∧ ∃ d':Array Ac,d'.size=d0.size∧Merged ltA d a m b d'∧SWK cc 4 w0 B off d' w':=by
 have KM:=Lib.hid hM
 have KR:=Lib.hid (fun (d:Array Ac) (a m b:Nat) (fv:Value) (w:World) (h2:SWK cc 4 w0 B off d w) (h3:d.size=d0.size) (h4:a<m) (h5:m<b) (h6:b≤L)=>show Calls Tryz.prog 220 #[.slice (some ⟨B,off,none⟩) L cap,.int .i64 (a:Int),.int .i64 (m:Int),.int .i64 (b:Int),fv] w fun e w'=>e = .returned (.tuple #[]) ∧ ∃ d':Array Ac,d'.size=d0.size∧(∀ t,d'[t]! = rotF d a m b t)∧PermIn a b d d'∧SWK cc 4 w0 B off d' w' from by
  have K:=rotate_a d0 d B off cap a m b fv w0 w R h2 h3 h4 h5 (by omega) (by omega)
  rw [h3,hL] at K
  rw [hL]
  exact K)
 clear hM
 have HC:=Lib.hid (lays_a B off d0.size w0)
 have S0:Aside (SWK cc 4 w0 B off d w):=S
 have HR:Hid (RowK cc 4 w0 B off d0):=R
 have HS:=Lib.hid hs
 have hdl:d.size=L:=by omega
 have HL:=Lib.hid hL
 have mixed:Tryz.prog.follows .mixedOrders=true:=by kernel_rfl
 clear S R hs hL
 have r1:IntKind.i64.wrap ((m:Int)-(a:Int))=((m-a:Nat):Int):=by rw [IntKind.wrap_i64];omega
 have r2:IntKind.i64.wrap ((b:Int)-(m:Int))=((b-m:Nat):Int):=by rw [IntKind.wrap_i64];omega
 obtain ⟨ma,hma⟩:∃ k,m-a=k:=⟨_,rfl⟩
 obtain ⟨bm,hbm⟩:∃ k,b-m=k:=⟨_,rfl⟩
 rw [hma] at r1
 rw [hbm] at r2
 have HDL:=Lib.hid hdl
 clear hdl
 rw [hma] at h1
 rw [hbm] at h2
 go_enter Tryz.func188,Tryz.ntmps188
 have t1:((ma:Int) == 1)=false:=by rw [beq_eq_false_iff_ne];omega
 have t2:((bm:Int) == 1)=false:=by rw [beq_eq_false_iff_ne];omega
 obtain ⟨mid,hmid⟩:∃ k,(a+b) / 2=k:=⟨_,rfl⟩
 have e1:((a:Int)+(b:Int)) / 2=(mid:Int):=by omega
 obtain ⟨n,hn⟩:∃ k,mid+m=k:=⟨_,rfl⟩
 have e2:(mid:Int)+(m:Int)=(n:Int):=by omega
 obtain ⟨p,hp⟩:∃ k,n-1=k:=⟨_,rfl⟩
 have e3:IntKind.i64.wrap ((n:Int)-1)=(p:Int):=by rw [IntKind.wrap_i64];omega
 have e4:IntKind.i64.wrap ((mid:Int)+(m:Int))=(n:Int):=by rw [IntKind.wrap_i64];omega
 obtain ⟨lo,hlo⟩:∃ k,k=(if mid<m then mid+m-b else a):=⟨_,rfl⟩
 obtain ⟨hi,hhi⟩:∃ k,k=(if mid<m then mid else m):=⟨_,rfl⟩
 have HE:Hid ((a+b) / 2=mid∧mid+m=n∧n-1=p∧lo=(if mid<m then mid+m-b else a)∧hi=(if mid<m then mid else m)):=⟨hmid,hn,hp,hlo,hhi⟩
 have HB:Hid (a≤lo∧lo≤hi∧hi≤m∧hi≤mid∧a<mid∧mid<b∧(∀ c,lo≤c→c<hi→m≤p-c∧p-c<b∧c≤p)):=by
  refine ⟨?_,?_,?_,?_,by omega,by omega,fun c h1 h2=>?_⟩
  ·split at hlo <;> omega
  ·split at hlo <;> split at hhi <;> omega
  ·split at hhi <;> omega
  ·split at hhi <;> omega
  ·split at hlo <;> split at hhi <;> omega
 clear hma hbm h1 h2 hlo hhi
 have hbn:b≤n+b:=by omega
 go_upto_region 27 with fail
 go_cut [18,19,140] (fun s18 s19 s140 wx=>s18 = .int .i64 (mid:Int)∧s19 = .int .i64 (n:Int)∧s140 = .bool (decide (mid<m))∧w=wx)
 case first=>as_aux_lemma =>
  by_cases hmm:mid<m
  ·have e6:decide ((m:Int) > (mid:Int))=true:=decide_eq_true (by omega)
   have e7:(mid:Int)<(m:Int):=by omega
   have e8:decide (mid<m)=true:=decide_eq_true hmm
   go_wp2_with fail
   go_meet
   exact ⟨rfl,rfl,by rw [e8],rfl⟩
  ·have e6:decide ((m:Int) > (mid:Int))=false:=decide_eq_false (by omega)
   have e7:¬ (mid:Int)<(m:Int):=by omega
   have e8:decide (mid<m)=false:=decide_eq_false hmm
   go_wp2_with fail
   go_meet
   exact ⟨rfl,rfl,by rw [e8],rfl⟩
 obtain ⟨rfl,rfl,rfl,rfl⟩:=hcut
 go_upto_if 140 with fail
 go_cut [18,19,20,21] (fun s18 s19 s20 s21 wx=>s18 = .int .i64 (mid:Int)∧s19 = .int .i64 (n:Int)∧s20 = .int .i64 (lo:Int)∧s21 = .int .i64 (hi:Int)∧w=wx)
 case first=>as_aux_lemma =>
  by_cases hmm:mid<m
  ·have hlo:=HE.out.2.2.2.1
   have hhi:=HE.out.2.2.2.2
   rw [if_pos hmm] at hlo hhi
   have e5:IntKind.i64.wrap ((n:Int)-(b:Int))=(lo:Int):=by rw [IntKind.wrap_i64];omega
   have e6:decide (mid<m)=true:=decide_eq_true hmm
   have HH:Hid (lo=n-b∧hi=mid):=⟨by omega,hhi⟩
   clear hlo hhi e1 e2 e5
   go_wp2_with fail
   go_meet
   obtain ⟨e8,e9⟩:=HH.out
   rw [e8,e9]
   exact ⟨rfl,rfl,by congr 1;omega,rfl,rfl⟩
  ·have hlo:=HE.out.2.2.2.1
   have hhi:=HE.out.2.2.2.2
   rw [if_neg hmm] at hlo hhi
   have e6:decide (mid<m)=false:=decide_eq_false hmm
   have HH:Hid (lo=a∧hi=m):=⟨hlo,hhi⟩
   clear hlo hhi e1 e2
   go_wp2_with fail
   go_meet
   obtain ⟨e8,e9⟩:=HH.out
   rw [e8,e9]
   exact ⟨rfl,rfl,rfl,rfl,rfl⟩
 case rest =>
  obtain ⟨rfl,rfl,rfl,rfl,rfl⟩:=hcut
  clear t1 t2 r1 r2 hmid hn hp
  go_wp2_with fail
  go_loopw [20,21,23] (fun vi vj vh wr=>∃ (i j:Nat),vi = .int .i64 i∧vj = .int .i64 j∧lo≤i∧i≤j∧j≤hi∧Aside (SWK cc 4 w0 B off d wr)∧Hid (SortedIn ltA a m d→SortedIn ltA m b d→Half (fun c=>!(ltA d[p-c]! d[c]!)) lo i j hi))
   (fun vi vj _ _=>(intOf vj).toNat-(intOf vi).toNat)
  case atStart=>exact ⟨lo,hi,rfl,rfl,Nat.le_refl _,HB.out.2.1,Nat.le_refl _,S0,fun _ _=>Half.start⟩
  case round =>
   clear S0
   obtain ⟨i,j,rfl,rfl,hi1,hij,hj,S1,HD⟩:=hrel
   by_cases hlt:i<j
   ·have hltz:(i:Int)<(j:Int):=by omega
    obtain ⟨h,hh⟩:∃ h,(i+j) / 2=h:=⟨_,rfl⟩
    have hhz:((i:Int)+(j:Int)) / 2=(h:Int):=by omega
    have hih:i≤h:=by omega
    have hhj:h<j:=by omega
    have hbd:=HB.out.2.2.2.2.2.2 h (by omega) (by omega)
    have hhm:=HB.out.2.2.1
    clear hh
    obtain ⟨q,hq⟩:∃ q,p-h=q:=⟨_,rfl⟩
    have hqz:IntKind.i64.wrap ((p:Int)-(h:Int))=(q:Int):=by rw [IntKind.wrap_i64];omega
    have hz0:h<d.size:=by have:=HDL.out;omega
    have hz1:q<d.size:=by have:=HDL.out;omega
    have hz2:(h:Int)<(L:Int):=by have:=HDL.out;omega
    have hz3:(q:Int)<(L:Int):=by have:=HDL.out;omega
    have HQ:=Lib.hid hq
    have hMO:=Lib.hid (fun (h1:SortedIn ltA a m d) (h2:SortedIn ltA m b d)=>mono_both swo_a h1 h2 HB.out.1 HB.out.2.2.1 HB.out.2.2.2.2.2.2)
    clear hq hbd
    cases hv:ltA d[q]! d[h]! with
    | false=>as_aux_lemma =>
     have hz4:IntKind.i64.wrap ((h:Int)+1)=((h+1:Nat):Int):=by rw [IntKind.wrap_i64];omega
     have hX:=fun (n:Nat) (os:Array Obj)=>swk_cells (S1.out.grown n os) HR.out HS.out (x:=q) (by omega)
     have hY:=fun (n:Nat) (os:Array Obj)=>swk_cells (S1.out.grown n os) HR.out HS.out (x:=h) (by omega)
     have hc:=S1.out.cmp HC.out HS.out d[q]! d[h]!
     have hsg:¬ cfA d[q]! d[h]! < 0:=of_decide_eq_false hv
     have HV:=Lib.hid hv
     clear hv
     obtain ⟨PX,hPX⟩:∃ P,d[q]! = P:=⟨_,rfl⟩
     rw [hPX] at hX hc hsg
     clear hPX
     obtain ⟨PY,hPY⟩:∃ P,d[h]! = P:=⟨_,rfl⟩
     rw [hPY] at hY hc hsg
     clear hPY
     have x1:=fun (n:Nat) (os:Array Obj)=>(hX n os 0 _ rfl).1
     have x2:=fun (n:Nat) (os:Array Obj)=>(hX n os 1 _ rfl).1
     have x3:=fun (n:Nat) (os:Array Obj)=>(hX n os 2 _ rfl).1
     have x4:=fun (n:Nat) (os:Array Obj)=>(hX n os 3 _ rfl).1
     have y1:=fun (n:Nat) (os:Array Obj)=>(hY n os 0 _ rfl).1
     have y2:=fun (n:Nat) (os:Array Obj)=>(hY n os 1 _ rfl).1
     have y3:=fun (n:Nat) (os:Array Obj)=>(hY n os 2 _ rfl).1
     have y4:=fun (n:Nat) (os:Array Obj)=>(hY n os 3 _ rfl).1
     simp only [Nat.add_zero] at x1 y1
     clear hX hY
     generalize cfA PX PY=z at hc hsg
     obtain ⟨xc,xn,xk,xp,_,_,_,_⟩:=PX
     obtain ⟨yc,yn,yk,yp,_,_,_,_⟩:=PY
     simp only [cc,Array.append_empty] at hc
     simp only [cc] at x1 x2 x3 x4 y1 y2 y3 y4
     have hd:decide (z<0)=false:=decide_eq_false hsg
     go_wp2_with fail
     go_quiet_grown (first | (go_at_call 97;refine Calls.grown_of (hc _ _)))
     have S2:Aside (SWK cc 4 w0 B off d _):=S1.out.grown nq osq
     clear x1 x2 x3 x4 y1 y2 y3 y4 hc S1
     generalize grow (wr.drewN nq) osq=w2 at S2 ⊢
     clear nq osq hd hsg
     go_wp2
     go_roundw
     case rel=>exact ⟨h+1,j,by go_num,rfl,by omega,by omega,hj,S2,fun k1 k2=>(HD.out k1 k2).up (hMO.out k1 k2) hih hhj hj (by simp only [HQ.out,HV.out];rfl)⟩
     case measure=>simp [intOf];omega
    | true=>as_aux_lemma =>
     have hX:=fun (n:Nat) (os:Array Obj)=>swk_cells (S1.out.grown n os) HR.out HS.out (x:=q) (by omega)
     have hY:=fun (n:Nat) (os:Array Obj)=>swk_cells (S1.out.grown n os) HR.out HS.out (x:=h) (by omega)
     have hc:=S1.out.cmp HC.out HS.out d[q]! d[h]!
     have hsg:cfA d[q]! d[h]! < 0:=of_decide_eq_true hv
     have HV:=Lib.hid hv
     clear hv
     obtain ⟨PX,hPX⟩:∃ P,d[q]! = P:=⟨_,rfl⟩
     rw [hPX] at hX hc hsg
     clear hPX
     obtain ⟨PY,hPY⟩:∃ P,d[h]! = P:=⟨_,rfl⟩
     rw [hPY] at hY hc hsg
     clear hPY
     have x1:=fun (n:Nat) (os:Array Obj)=>(hX n os 0 _ rfl).1
     have x2:=fun (n:Nat) (os:Array Obj)=>(hX n os 1 _ rfl).1
     have x3:=fun (n:Nat) (os:Array Obj)=>(hX n os 2 _ rfl).1
     have x4:=fun (n:Nat) (os:Array Obj)=>(hX n os 3 _ rfl).1
     have y1:=fun (n:Nat) (os:Array Obj)=>(hY n os 0 _ rfl).1
     have y2:=fun (n:Nat) (os:Array Obj)=>(hY n os 1 _ rfl).1
     have y3:=fun (n:Nat) (os:Array Obj)=>(hY n os 2 _ rfl).1
     have y4:=fun (n:Nat) (os:Array Obj)=>(hY n os 3 _ rfl).1
     simp only [Nat.add_zero] at x1 y1
     clear hX hY
     generalize cfA PX PY=z at hc hsg
     obtain ⟨xc,xn,xk,xp,_,_,_,_⟩:=PX
     obtain ⟨yc,yn,yk,yp,_,_,_,_⟩:=PY
     simp only [cc,Array.append_empty] at hc
     simp only [cc] at x1 x2 x3 x4 y1 y2 y3 y4
     have hd:decide (z<0)=true:=decide_eq_true hsg
     go_wp2_with fail
     go_quiet_grown (first | (go_at_call 97;refine Calls.grown_of (hc _ _)))
     have S2:Aside (SWK cc 4 w0 B off d _):=S1.out.grown nq osq
     clear x1 x2 x3 x4 y1 y2 y3 y4 hc S1
     generalize grow (wr.drewN nq) osq=w2 at S2 ⊢
     clear nq osq hd hsg
     go_wp2
     go_roundw
     case rel=>exact ⟨i,h,rfl,by go_num,hi1,by omega,by omega,S2,fun k1 k2=>(HD.out k1 k2).down (hMO.out k1 k2) hih hhj hi1 (by simp only [HQ.out,HV.out];rfl)⟩
     case measure=>simp [intOf];omega
   ·have hltz:¬ (i:Int)<(j:Int):=by omega
    obtain rfl:i=j:=by omega
    obtain ⟨b1,b2,b3,b4,b5,b6,_⟩:=HB.out
    obtain ⟨a1,a2,a3,a4,a5⟩:=HE.out
    obtain ⟨en,hen⟩:∃ k,n-i=k:=⟨_,rfl⟩
    have ez:IntKind.i64.wrap ((n:Int)-(i:Int))=(en:Int):=by rw [IntKind.wrap_i64];omega
    have n1:a≤i:=by omega
    have n2:i≤m:=by omega
    have n3:i≤mid:=by omega
    have n4:m≤en:=by omega
    have n5:en≤b:=by split at a4 <;> omega
    have n6:i+(en-m)=mid:=by omega
    have HST:Hid (SortedIn ltA a m d→SortedIn ltA m b d→(∀ c,a≤c→c<i → ∀ t,en≤t→t<b→ltA d[t]! d[c]! = false)∧(∀ c,i≤c→c<m → ∀ t,m≤t→t<en→ltA d[t]! d[c]! = true)):=fun k1 k2=>by
     have H:=HD.out k1 k2
     have:=search_tells swo_a k1 k2 a1.symm ham hmb a4 a5 ⟨hi1,hj⟩ (by rw [a2,a3];exact H)
     rw [a2,hen] at this
     exact this
    have hmd:mid≤en:=by omega
    clear a1 a2 a3 a4 a5 hen HD hlt HE HB hi1 hj b1 b2 b3 b4 hij
    go_upto_region 39 with fail
    go_cut [24,185] (fun s24 sb wx=>s24 = .int .i64 (en:Int)∧sb = .bool (decide (i<m) && decide (m<en))∧wr=wx)
    case first=>as_aux_lemma =>
     by_cases c1:i<m
     ·have c1z:decide ((i:Int)<(m:Int))=true:=decide_eq_true (by omega)
      have c1y:(i:Int)<(m:Int):=by omega
      have c1x:decide (i<m)=true:=decide_eq_true c1
      by_cases c2:m<en
      ·have c2z:decide ((m:Int)<(en:Int))=true:=decide_eq_true (by omega)
       have c2y:(m:Int)<(en:Int):=by omega
       have c2x:decide (m<en)=true:=decide_eq_true c2
       go_wp2_with fail
       go_meet
       exact ⟨rfl,by rw [c1x,c2x];rfl,rfl⟩
      ·have c2z:decide ((m:Int)<(en:Int))=false:=decide_eq_false (by omega)
       have c2y:¬ (m:Int)<(en:Int):=by omega
       have c2x:decide (m<en)=false:=decide_eq_false c2
       go_wp2_with fail
       go_meet
       exact ⟨rfl,by rw [c1x,c2x];rfl,rfl⟩
     ·have c1z:decide ((i:Int)<(m:Int))=false:=decide_eq_false (by omega)
      have c1y:¬ (i:Int)<(m:Int):=by omega
      have c1x:decide (i<m)=false:=decide_eq_false c1
      go_wp2_with fail
      go_meet
      exact ⟨rfl,by rw [c1x];rfl,rfl⟩
    obtain ⟨rfl,rfl,rfl⟩:=hcut
    go_upto_if 185 with fail
    go_cut [24] (fun s24 wx=>s24 = .int .i64 (en:Int) ∧ ∃ d1:Array Ac,Hid (d1.size=d0.size)∧Hid ((∀ t,d1[t]! = rotF d i m en t)∧PermIn i en d d1)∧Aside (SWK cc 4 w0 B off d1 wx))
    case first=>as_aux_lemma =>
     by_cases c1:i<m
     ·have c1x:decide (i<m)=true:=decide_eq_true c1
      by_cases c2:m<en
      ·have c2x:decide (m<en)=true:=decide_eq_true c2
       go_wp2_with (go_at_call 220;refine (KR.out d i m en _ _ S1.out HS.out c1 c2 (by omega)).mono ?_;rintro e w1 ⟨rfl,hp⟩;have HP:=Lib.hid hp;clear hp)
       go_meet
       obtain ⟨d1,k1,k2,k3,k4⟩:=HP.out
       exact ⟨rfl,d1,k1,⟨k2,k3⟩,k4⟩
      ·have c2x:decide (m<en)=false:=decide_eq_false c2
       go_wp2_with fail
       go_meet
       exact ⟨rfl,d,HS.out,⟨fun t=>(rot_none (.inr (by omega)) n2 n4).symm,permIn_refl _ _ _⟩,S1⟩
     ·have c1x:decide (i<m)=false:=decide_eq_false c1
      go_wp2_with fail
      go_meet
      exact ⟨rfl,d,HS.out,⟨fun t=>(rot_none (.inl (by omega)) n2 n4).symm,permIn_refl _ _ _⟩,S1⟩
    case rest =>
     clear S1
     obtain ⟨rfl,d1,HS1,HR1,S2⟩:=hcut
     rename World=>wA
     go_upto_region 41 with fail
     go_cut [24,199] (fun s24 sb wx=>s24 = .int .i64 (en:Int)∧sb = .bool (decide (a<i) && decide (i<mid))∧wA=wx)
     case first=>as_aux_lemma =>
      by_cases c1:a<i
      ·have c1z:decide ((a:Int)<(i:Int))=true:=decide_eq_true (by omega)
       have c1y:(a:Int)<(i:Int):=by omega
       have c1x:decide (a<i)=true:=decide_eq_true c1
       by_cases c2:i<mid
       ·have c2z:decide ((i:Int)<(mid:Int))=true:=decide_eq_true (by omega)
        have c2y:(i:Int)<(mid:Int):=by omega
        have c2x:decide (i<mid)=true:=decide_eq_true c2
        go_wp2_with fail
        go_meet
        exact ⟨rfl,by rw [c1x,c2x];rfl,rfl⟩
       ·have c2z:decide ((i:Int)<(mid:Int))=false:=decide_eq_false (by omega)
        have c2y:¬ (i:Int)<(mid:Int):=by omega
        have c2x:decide (i<mid)=false:=decide_eq_false c2
        go_wp2_with fail
        go_meet
        exact ⟨rfl,by rw [c1x,c2x];rfl,rfl⟩
      ·have c1z:decide ((a:Int)<(i:Int))=false:=decide_eq_false (by omega)
       have c1y:¬ (a:Int)<(i:Int):=by omega
       have c1x:decide (a<i)=false:=decide_eq_false c1
       go_wp2_with fail
       go_meet
       exact ⟨rfl,by rw [c1x];rfl,rfl⟩
     obtain ⟨rfl,rfl,rfl⟩:=hcut
     go_upto_if 199 with fail
     go_cut [24] (fun s24 wx=>s24 = .int .i64 (en:Int) ∧ ∃ d2:Array Ac,Hid (d2.size=d0.size)∧Hid (Merged ltA d1 a i mid d2)∧Aside (SWK cc 4 w0 B off d2 wx))
     case first=>as_aux_lemma =>
      by_cases c1:a<i
      ·have c1x:decide (a<i)=true:=decide_eq_true c1
       by_cases c2:i<mid
       ·have c2x:decide (i<mid)=true:=decide_eq_true c2
        go_wp2_with (go_at_call 188;refine (KM.out d1 a i mid _ (by omega) S2.out HS1.out c1 c2 (by omega)).mono ?_;rintro e w1 ⟨rfl,hp⟩;have HP:=Lib.hid hp;clear hp)
        go_meet
        obtain ⟨d2,k1,k2,k3⟩:=HP.out
        exact ⟨rfl,d2,k1,k2,k3⟩
       ·have c2x:decide (i<mid)=false:=decide_eq_false c2
        go_wp2_with fail
        go_meet
        exact ⟨rfl,d1,HS1.out,merged_none (.inr (by omega)),S2⟩
      ·have c1x:decide (a<i)=false:=decide_eq_false c1
       go_wp2_with fail
       go_meet
       exact ⟨rfl,d1,HS1.out,merged_none (.inl (by omega)),S2⟩
     case rest =>
      clear S2
      obtain ⟨rfl,d2,HS2,HR2,S3⟩:=hcut
      rename World=>wB
      have HFIN:Hid (∀ d3,Merged ltA d2 mid en b d3→Merged ltA d a m b d3):=fun d3 k3=>merged_all swo_a (by have:=HDL.out;omega) (by omega) (by omega) n1 n2 n4 n5 n6 HR1.out.2 HR1.out.1 HST.out HR2.out k3
      go_upto_region 43 with fail
      go_cut [24,213] (fun s24 sb wx=>s24 = .int .i64 (en:Int)∧sb = .bool (decide (mid<en) && decide (en<b))∧wB=wx)
      case first=>as_aux_lemma =>
       by_cases c1:mid<en
       ·have c1z:decide ((mid:Int)<(en:Int))=true:=decide_eq_true (by omega)
        have c1y:(mid:Int)<(en:Int):=by omega
        have c1x:decide (mid<en)=true:=decide_eq_true c1
        by_cases c2:en<b
        ·have c2z:decide ((en:Int)<(b:Int))=true:=decide_eq_true (by omega)
         have c2y:(en:Int)<(b:Int):=by omega
         have c2x:decide (en<b)=true:=decide_eq_true c2
         go_wp2_with fail
         go_meet
         exact ⟨rfl,by rw [c1x,c2x];rfl,rfl⟩
        ·have c2z:decide ((en:Int)<(b:Int))=false:=decide_eq_false (by omega)
         have c2y:¬ (en:Int)<(b:Int):=by omega
         have c2x:decide (en<b)=false:=decide_eq_false c2
         go_wp2_with fail
         go_meet
         exact ⟨rfl,by rw [c1x,c2x];rfl,rfl⟩
       ·have c1z:decide ((mid:Int)<(en:Int))=false:=decide_eq_false (by omega)
        have c1y:¬ (mid:Int)<(en:Int):=by omega
        have c1x:decide (mid<en)=false:=decide_eq_false c1
        go_wp2_with fail
        go_meet
        exact ⟨rfl,by rw [c1x];rfl,rfl⟩
      obtain ⟨rfl,rfl,rfl⟩:=hcut
      by_cases c1:mid<en
      ·have c1x:decide (mid<en)=true:=decide_eq_true c1
       by_cases c2:en<b
       ·have c2x:decide (en<b)=true:=decide_eq_true c2
        go_wp2_with (go_at_call 188;refine (KM.out d2 mid en b _ (by omega) S3.out HS2.out c1 c2 hb).mono ?_;rintro e w1 ⟨rfl,hp⟩;have HP:=Lib.hid hp;clear hp)
        go_end0
        obtain ⟨d3,k1,k2,k3⟩:=HP.out
        exact ⟨rfl,d3,k1,HFIN.out d3 k2,k3⟩
       ·have c2x:decide (en<b)=false:=decide_eq_false c2
        go_wp2_with fail
        go_end0
        exact ⟨rfl,d2,HS2.out,HFIN.out d2 (merged_none (.inr (by omega))),S3.out⟩
      ·have c1x:decide (mid<en)=false:=decide_eq_false c1
       go_wp2_with fail
       go_end0
       exact ⟨rfl,d2,HS2.out,HFIN.out d2 (merged_none (.inl (by omega))),S3.out⟩
theorem sym_merge (d0:Array Ac) (B off cap L:Nat) (w0:World) (R:RowK cc 4 w0 B off d0) (hL:d0.size=L) (hsz:L≤1000000):∀ (N:Nat) (d:Array Ac) (a m b:Nat) (w:World),b-a≤N→SWK cc 4 w0 B off d w→d.size=d0.size→a<m→m<b→b≤L →
 Calls Tryz.prog 188 #[.slice (some ⟨B,off,none⟩) L cap,.int .i64 (a:Int),.int .i64 (m:Int),.int .i64 (b:Int),.func (.func 97) #[] #[]] w fun e w'=>e = .returned (.tuple #[]) ∧ ∃ d':Array Ac,d'.size=d0.size∧Merged ltA d a m b d'∧SWK cc 4 w0 B off d' w'
 | 0,d,a,m,b,w,hN,S,hs,ham,hmb,hb=>by omega
 | N+1,d,a,m,b,w,hN,S,hs,ham,hmb,hb=>by
  by_cases h1:m-a=1
  ·exact sym_one d0 B off cap L w0 R hL hsz d a m b w S hs ham hmb hb h1
  ·by_cases h2:b-m=1
   ·exact sym_other d0 B off cap L w0 R hL hsz d a m b w S hs ham hmb hb h1 h2
   ·exact sym_gen d0 B off cap L w0 R hL hsz d a m b w S hs ham hmb hb h1 h2 (fun d a' m' b' w h3 S hs k1 k2 k3=>sym_merge d0 B off cap L w0 R hL hsz N d a' m' b' w (by omega) S hs k1 k2 k3)
theorem srt_keep {a b a' b':Nat} {d d':Array Ac} (h:SortedIn ltA a b d) (hp:PermIn a' b' d d') (ho:b≤a'∨b'≤a):SortedIn ltA a b d':=fun i j hi hij hj=>by
 rw [hp.2.1 i (by omega),hp.2.1 j (by omega)]
 exact h i j hi hij hj
def B1 (n k:Nat) (d0 d:Array Ac):Prop:=PermIn 0 n d0 d ∧ ∀ j,j<k→SortedIn ltA (j * 20) (j * 20+20) d
def B2 (n S:Nat) (d0 d:Array Ac):Prop:=PermIn 0 n d0 d ∧ ∀ j,SortedIn ltA (j * S) (min (j * S+S) n) d
def B3 (n S k:Nat) (d0 d:Array Ac):Prop:=PermIn 0 n d0 d∧(∀ j,j<k→SortedIn ltA (j * (2 * S)) (j * (2 * S)+2 * S) d) ∧ ∀ j,2 * k≤j→SortedIn ltA (j * S) (min (j * S+S) n) d
theorem B1.zero (n:Nat) (d:Array Ac):B1 n 0 d d:=⟨permIn_refl _ _ _,fun j hj=>by omega⟩
theorem B1.step {n k:Nat} {d0 d d':Array Ac} (h:B1 n k d0 d) (hp:PermIn (k * 20) (k * 20+20) d d') (hs:SortedIn ltA (k * 20) (k * 20+20) d') (hb:k * 20+20≤n) (hn:n≤d.size):B1 n (k+1) d0 d' :=
 ⟨permIn_trans _ _ _ _ _ h.1 (permIn_mono d d' (k * 20) (k * 20+20) 0 n (by omega) hb hn hp),fun j hj=>by
  by_cases e:j=k
  ·subst e;exact hs
  ·exact srt_keep (h.2 j (by omega)) hp (by omega)⟩
theorem B1.fin {n k:Nat} {d0 d d':Array Ac} (h:B1 n k d0 d) (hp:PermIn (k * 20) n d d') (hs:SortedIn ltA (k * 20) n d') (hb:n<k * 20+20) (ha:k * 20≤n) (hn:n≤d.size):B2 n 20 d0 d' :=
 ⟨permIn_trans _ _ _ _ _ h.1 (permIn_mono d d' (k * 20) n 0 n (by omega) (Nat.le_refl _) hn hp),fun j=>by
  rcases Nat.lt_trichotomy j k with e | e | e
  ·exact srt_keep (srt_sub (h.2 j e) (Nat.le_refl _) (by omega)) hp (by omega)
  ·subst e
   exact srt_sub hs (Nat.le_refl _) (by omega)
  ·intro x y hx hxy hy
   omega⟩
theorem B2.to3 {n S:Nat} {d0 d:Array Ac} (h:B2 n S d0 d):B3 n S 0 d0 d:=⟨h.1,fun j hj=>by omega,fun j _=>h.2 j⟩
theorem B3.step {n S k a:Nat} {d0 d d':Array Ac} (h:B3 n S k d0 d) (ha:a=k * (2 * S)) (hS:0<S) (hb:a+2 * S≤n) (hm:Merged ltA d a (a+S) (a+2 * S) d') (hn:n≤d.size):B3 n S (k+1) d0 d':=by
 obtain ⟨h1,h2,h3⟩:=h
 have e1:(2 * k) * S=a:=by rw [ha,Nat.mul_comm 2 k,Nat.mul_assoc]
 have e2:(2 * k+1) * S=a+S:=by rw [Nat.succ_mul,e1]
 have s1:=h3 (2 * k) (Nat.le_refl _)
 have s2:=h3 (2 * k+1) (by omega)
 rw [e1] at s1
 rw [e2] at s2
 have s3:=hm.2 (srt_sub s1 (Nat.le_refl _) (by omega)) (srt_sub s2 (Nat.le_refl _) (by omega))
 refine ⟨permIn_trans _ _ _ _ _ h1 (permIn_mono d d' a (a+2 * S) 0 n (by omega) hb hn hm.1),fun j hj=>?_,fun j hj=>?_⟩
 ·by_cases e:j=k
  ·subst e
   rw [← ha];exact s3
  ·have:(j+1) * (2 * S)≤k * (2 * S):=Nat.mul_le_mul_right _ (by omega)
   rw [Nat.succ_mul] at this
   exact srt_keep (h2 j (by omega)) hm.1 (by omega)
 ·have:(2 * k+2) * S≤j * S:=Nat.mul_le_mul_right _ (by omega)
  rw [show 2 * k+2=2 * k+1+1 from rfl,Nat.succ_mul,e2] at this
  exact srt_keep (h3 j (by omega)) hm.1 (by omega)
theorem B3.done {n S k a:Nat} {d0 d:Array Ac} (h:PermIn 0 n d0 d) (h2:∀ j,j<k→SortedIn ltA (j * (2 * S)) (j * (2 * S)+2 * S) d) (ha:a=k * (2 * S)) (hb:n<a+2 * S) (hs:SortedIn ltA a n d):B2 n (2 * S) d0 d:=⟨h,fun j=>by
 rcases Nat.lt_trichotomy j k with e | e | e
 ·exact srt_sub (h2 j e) (Nat.le_refl _) (by omega)
 ·subst e
  rw [← ha]
  exact srt_sub hs (Nat.le_refl _) (by omega)
 ·have:(k+1) * (2 * S)≤j * (2 * S):=Nat.mul_le_mul_right _ (by omega)
  rw [Nat.succ_mul,← ha] at this
  intro x y hx hxy hy
  omega⟩
theorem B3.last {n S k a:Nat} {d0 d d':Array Ac} (h:B3 n S k d0 d) (ha:a=k * (2 * S)) (hS:0<S) (hm:Merged ltA d a (a+S) n d') (hb:n<a+2 * S) (hc:a+S<n) (hn:n≤d.size):B2 n (2 * S) d0 d':=by
 obtain ⟨h1,h2,h3⟩:=h
 have e1:(2 * k) * S=a:=by rw [ha,Nat.mul_comm 2 k,Nat.mul_assoc]
 have e2:(2 * k+1) * S=a+S:=by rw [Nat.succ_mul,e1]
 have s1:=h3 (2 * k) (Nat.le_refl _)
 have s2:=h3 (2 * k+1) (by omega)
 rw [e1] at s1
 rw [e2] at s2
 have s3:=hm.2 (srt_sub s1 (Nat.le_refl _) (by omega)) (srt_sub s2 (Nat.le_refl _) (by omega))
 refine B3.done (permIn_trans _ _ _ _ _ h1 (permIn_mono d d' a n 0 n (by omega) (Nat.le_refl _) hn hm.1)) (fun j hj=>?_) ha hb s3
 have:(j+1) * (2 * S)≤k * (2 * S):=Nat.mul_le_mul_right _ (by omega)
 rw [Nat.succ_mul] at this
 exact srt_keep (h2 j (by omega)) hm.1 (by omega)
theorem B3.same {n S k a:Nat} {d0 d:Array Ac} (h:B3 n S k d0 d) (ha:a=k * (2 * S)) (hS:0<S) (hc:n≤a+S):B2 n (2 * S) d0 d:=by
 obtain ⟨h1,h2,h3⟩:=h
 have e1:(2 * k) * S=a:=by rw [ha,Nat.mul_comm 2 k,Nat.mul_assoc]
 have s1:=h3 (2 * k) (Nat.le_refl _)
 rw [e1] at s1
 exact B3.done h1 h2 ha (by omega) (srt_sub s1 (Nat.le_refl _) (by omega))
theorem B2.fin {n S:Nat} {d0 d:Array Ac} (h:B2 n S d0 d) (hn:n≤S):SortedIn ltA 0 n d:=by
 have:=h.2 0
 rw [Nat.zero_mul] at this
 exact srt_sub this (Nat.le_refl _) (by omega)
theorem ins_a (d0 d:Array Ac) (B off cap L a b:Nat) (w0 w:World) (R:RowK cc 4 w0 B off d0) (hL:d0.size=L) (S:SWK cc 4 w0 B off d w) (hs:d.size=d0.size) (hab:a≤b) (hb:b≤L) (hsz:L≤1000000) :
 Calls Tryz.prog 187 #[.slice (some ⟨B,off,none⟩) L cap,.int .i64 (a:Int),.int .i64 (b:Int),.func (.func 97) #[] #[]] w fun e w'=>e = .returned (.tuple #[]) ∧ ∃ d':Array Ac,d'.size=d0.size∧PermIn a b d d'∧SortedIn ltA a b d'∧SWK cc 4 w0 B off d' w':=by
 have eg:∀ args w,(callFunc 97 args).run Tryz.prog w = .ok (.enter 97 args) w:=enters_of Tryz.func97 (by kernel_rfl) rfl
 obtain ⟨h1,h2⟩:=insertionSort_holds swo_a d a b hab (by omega)
 have K:=AnyQ.insertionSortCmpFunc Tryz.insA 4 (fun w=>by kernel_rfl) (fun w=>by kernel_rfl) cc R.hk R.h1 cfA 97 #[] B off cap a b d w eg (lays_a B off d.size w) (S.holds R.hblk R.hH hs) (S.lt R.hblk) hab (by omega) (by omega)
 rw [hs,hL] at K
 refine (show Calls Tryz.prog 187 #[.slice (some ⟨B,off,none⟩) L cap,.int .i64 (a:Int),.int .i64 (b:Int),.func (.func 97) #[] #[]] w _ from K).mono ?_
 rintro e w' ⟨rfl,n,os,rfl⟩
 exact ⟨rfl,_,h1.1.trans hs,h1,h2,S.on R.hblk n _ os h1.1⟩
theorem stable_a (d0:Array Ac) (B off cap n:Nat) (w0 w:World) (R:RowK cc 4 w0 B off d0) (hL:d0.size=n) (S:SWK cc 4 w0 B off d0 w) (hsz:n≤100000) :
 Calls Tryz.prog 135 #[.slice (some ⟨B,off,none⟩) n cap,.int .i64 (n:Int),.func (.func 97) #[] #[]] w fun e w'=>e = .returned (.tuple #[]) ∧ ∃ d':Array Ac,d'.size=d0.size∧PermIn 0 n d0 d'∧SortedIn ltA 0 n d'∧SWK cc 4 w0 B off d' w':=by
 have KI:=Lib.hid (fun (d:Array Ac) (a b:Nat) (w:World) (h1:SWK cc 4 w0 B off d w) (h2:d.size=d0.size) (h3:a≤b) (h4:b≤n)=>ins_a d0 d B off cap n a b w0 w R hL h1 h2 h3 h4 (by omega))
 have KM:=Lib.hid (fun (d:Array Ac) (a m b:Nat) (w:World) (h1:SWK cc 4 w0 B off d w) (h2:d.size=d0.size) (h3:a<m) (h4:m<b) (h5:b≤n)=>sym_merge d0 B off cap n w0 R hL (by omega) (b-a) d a m b w (Nat.le_refl _) h1 h2 h3 h4 h5)
 have S0:Aside (SWK cc 4 w0 B off d0 w):=S
 have HL:=Lib.hid hL
 clear R hL S
 go_enter Tryz.func135,Tryz.ntmps135
 go_wp2_with fail
 go_loopw [7,8] (fun va vb wr=>∃ (a b k:Nat) (d:Array Ac),va = .int .i64 (a:Int)∧vb = .int .i64 (b:Int)∧a≤n∧Hid (b=a+20)∧Aside (SWK cc 4 w0 B off d wr)∧Hid (d.size=d0.size)∧Hid (a=k * 20∧B1 n k d0 d))
  (fun va _ _=>n-(intOf va).toNat)
 case atStart=>exact ⟨0,20,0,d0,rfl,rfl,by omega,rfl,S0,rfl,by omega,B1.zero n d0⟩
 case round =>
  clear S0
  obtain ⟨a,b,k,d,rfl,rfl,han,HB,S1,HS,HD⟩:=hrel
  by_cases hlt:b≤n
  ·have hz:(b:Int)≤(n:Int):=by omega
   have rb:IntKind.i64.wrap ((b:Int)+20)=((b+20:Nat):Int):=by rw [IntKind.wrap_i64];omega
   have KK:=Lib.hid (KI.out d a b wr S1.out HS.out (by have:=HB.out;omega) hlt)
   go_wp2_with (go_at_call 187;refine KK.out.mono ?_;rintro e w1 ⟨rfl,hp⟩;have HP:=Lib.hid hp;clear hp)
   go_roundw
   case rel =>
    obtain ⟨d',k1,k2,k3,k4⟩:=HP.out
    obtain ⟨ha,hB⟩:=HD.out
    have hb:=HB.out
    subst hb
    subst ha
    exact ⟨k * 20+20,k * 20+20+20,k+1,d',rfl,by go_num,hlt,rfl,k4,k1,by omega,hB.step k2 k3 hlt (by have:=HS.out;have:=HL.out;omega)⟩
   case measure=>have:=HB.out;simp [intOf];omega
  ·have hz:¬ (b:Int)≤(n:Int):=by omega
   have KK:=Lib.hid (KI.out d a n wr S1.out HS.out han (Nat.le_refl _))
   go_wp2_with (go_at_call 187;refine KK.out.mono ?_;rintro e w1 ⟨rfl,hp⟩;have HP:=Lib.hid hp;clear hp)
   have H2:∃ d1:Array Ac,Aside (SWK cc 4 w0 B off d1 w1)∧Hid (d1.size=d0.size)∧Hid (B2 n 20 d0 d1):=by
    obtain ⟨d',k1,k2,k3,k4⟩:=HP.out
    obtain ⟨ha,hB⟩:=HD.out
    have hb:=HB.out
    subst ha
    exact ⟨d',k4,k1,hB.fin k2 k3 (by omega) han (by have:=HS.out;have:=HL.out;omega)⟩
   obtain ⟨d1,S2,HS2,HD2⟩:=H2
   clear HP KK S1 HS HD HB hlt hz
   go_loopw [6,7,8,9] (fun vs va vb vm wr=>∃ (s:Nat) (d:Array Ac),vs = .int .i64 (s:Int)∧0<s∧s≤20+2 * n∧Aside (SWK cc 4 w0 B off d wr)∧Hid (d.size=d0.size)∧Hid (B2 n s d0 d))
    (fun vs _ _ _ _=>20+2 * n-(intOf vs).toNat)
   case atStart=>exact ⟨20,d1,rfl,by omega,by omega,S2,HS2,HD2⟩
   case round =>
    clear S2 HS2 HD2
    obtain ⟨s,d,rfl,hs0,hsn,S1,HS,HD⟩:=hrel
    by_cases hsl:s<n
    ·have hsz2:(s:Int)<(n:Int):=by omega
     obtain ⟨s2,hs2⟩:∃ s2,2 * s=s2:=⟨_,rfl⟩
     have rs:IntKind.i64.wrap (2 * (s:Int))=(s2:Int):=by rw [IntKind.wrap_i64];omega
     have rs':IntKind.i64.wrap ((s:Int) * 2)=(s2:Int):=by rw [IntKind.wrap_i64];omega
     have HS2:=Lib.hid hs2
     clear hs2
     go_wp2_with fail
     go_loopw [7,8] (fun va vb wr=>∃ (a b k:Nat) (d:Array Ac),va = .int .i64 (a:Int)∧vb = .int .i64 (b:Int)∧a≤n∧Hid (b=a+s2)∧Aside (SWK cc 4 w0 B off d wr)∧Hid (d.size=d0.size)∧Hid (a=k * (2 * s)∧B3 n s k d0 d))
      (fun va _ _=>n-(intOf va).toNat)
     case atStart=>exact ⟨0,s2,0,d,rfl,rfl,by omega,(by show s2=0+s2;omega),S1,HS,by omega,HD.out.to3⟩
     case round =>
      clear S1 HS HD
      obtain ⟨a,b,k,d,rfl,rfl,han,HB,S1,HS,HD⟩:=hrel
      obtain ⟨m,hm⟩:∃ m,a+s=m:=⟨_,rfl⟩
      have rm:IntKind.i64.wrap ((a:Int)+(s:Int))=(m:Int):=by rw [IntKind.wrap_i64];omega
      have ham:a<m:=by omega
      have HM:=Lib.hid hm
      clear hm
      by_cases hlt:b≤n
      ·have hz:(b:Int)≤(n:Int):=by omega
       have rb:IntKind.i64.wrap ((b:Int)+(s2:Int))=((b+s2:Nat):Int):=by rw [IntKind.wrap_i64];have:=HS2.out;omega
       have KK:=Lib.hid (KM.out d a m b wr S1.out HS.out (by omega) (by have:=HB.out;have:=HM.out;have:=HS2.out;omega) hlt)
       go_wp2_with (go_at_call 188;refine KK.out.mono ?_;rintro e w1 ⟨rfl,hp⟩;have HP:=Lib.hid hp;clear hp)
       go_roundw
       case rel =>
        obtain ⟨d',k1,k2,k3⟩:=HP.out
        obtain ⟨ha,hB⟩:=HD.out
        have e1:=HS2.out
        have e2:=HM.out
        have e3:=HB.out
        subst e1 e2 e3
        exact ⟨a+2 * s,a+2 * s+2 * s,k+1,d',rfl,by go_num,hlt,rfl,k3,k1,by show a+2 * s=(k+1) * (2 * s);rw [Nat.add_mul,← ha,Nat.one_mul],hB.step ha hs0 hlt k2 (by have:=HS.out;have:=HL.out;omega)⟩
       case measure=>have:=HB.out;have:=HS2.out;simp [intOf];omega
      ·have hz:¬ (b:Int)≤(n:Int):=by omega
       by_cases hmn:m<n
       ·have hmz:(m:Int)<(n:Int):=by omega
        have KK:=Lib.hid (KM.out d a m n wr S1.out HS.out (by omega) hmn (Nat.le_refl _))
        go_wp2_with (go_at_call 188;refine KK.out.mono ?_;rintro e w1 ⟨rfl,hp⟩;have HP:=Lib.hid hp;clear hp)
        go_roundw
        case rel =>
         obtain ⟨d',k1,k2,k3⟩:=HP.out
         obtain ⟨ha,hB⟩:=HD.out
         have e1:=HS2.out
         have e2:=HM.out
         have e3:=HB.out
         subst e1 e2 e3
         exact ⟨2 * s,d',by go_num,by omega,by omega,k3,k1,hB.last ha hs0 k2 (by omega) hmn (by have:=HS.out;have:=HL.out;omega)⟩
        case measure=>have:=HS2.out;simp [intOf];omega
       ·have hmz:¬ (m:Int)<(n:Int):=by omega
        go_wp2_with fail
        go_roundw
        case rel =>
         obtain ⟨ha,hB⟩:=HD.out
         have e1:=HS2.out
         have e2:=HM.out
         subst e1 e2
         exact ⟨2 * s,d,by go_num,by omega,by omega,S1,HS,hB.same ha hs0 (by omega)⟩
        case measure=>have:=HS2.out;simp [intOf];omega
    ·have hsz2:¬ (s:Int)<(n:Int):=by omega
     go_wp2_with fail
     go_end0
     exact ⟨rfl,d,HS.out,HD.out.1,HD.out.fin (by omega),S1.out⟩
theorem sort_stable (d0:Array Ac) (B off cap n:Nat) (w:World) (R:RowK cc 4 w B off d0) (hL:d0.size=n) (hsz:n≤100000) :
 Calls Tryz.prog 96 #[.slice (some ⟨B,off,none⟩) n cap,.func (.func 97) #[] #[]] w fun e w'=>e = .returned (.tuple #[]) ∧ ∃ d':Array Ac,d'.size=d0.size∧PermIn 0 n d0 d'∧SortedIn ltA 0 n d'∧SWK cc 4 w B off d' w':=by
 have hc:=Lib.hid (stable_a d0 B off cap n w w R hL (SWK.start R.hH) hsz)
 clear R hL
 go_enter Tryz.func96,Tryz.ntmps96
 go_wp2_with (go_at_call 135;refine hc.out.mono ?_;rintro e w1 ⟨rfl,hp1⟩;have HP:=Lib.hid hp1;clear hp1)
 go_end0
 exact ⟨rfl,HP.out⟩
